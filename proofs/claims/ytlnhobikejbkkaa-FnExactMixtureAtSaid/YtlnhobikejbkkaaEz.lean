/- The exponential function of numbers of at most 0: at most 1. -/
import Derived.Test.YtlnhobikejbkkaaEx
import Derived.Test.YtlnhobikejbkkaaKo
namespace Go.Proofs.Ytlnhobikejbkkaa
open Go Go.RowKit Fl
set_option linter.unusedVariables false

/-- A number is read back with its sign. -/
theorem read_sgn (f : Ieee.Format) (s : Bool) (m : Nat) (i : Int) : (∃ m' i', f.read (f.write (.number s m i)) = .number s m' i' ∧ (m = 0 → m' = 0)) ∨ f.read (f.write (.number s m i)) = .infinity s := by
  have key : ∀ rung, rung ≤ f.infRung → (∃ m' i', f.read (f.word s rung) = .number s m' i' ∧ (rung = 0 → m' = 0)) ∨ f.read (f.word s rung) = .infinity s := by
    intro rung h
    obtain ⟨e1, e2⟩ := read_word_sign f s (Nat.lt_of_le_of_lt h f.infRung_lt)
    unfold Ieee.Format.read
    simp only [e1, e2]
    split
    · exact .inl ⟨_, _, rfl, fun h => h⟩
    · split
      · rename_i h1 h2
        refine .inl ⟨_, _, rfl, fun h => ?_⟩
        have : 0 < f.binade := Nat.two_pow_pos _
        omega
      · split
        · exact .inr rfl
        · omega
  show _ ∨ f.read (f.nearest s m i) = .infinity s
  have e : f.write (.number s m i) = f.nearest s m i := rfl
  rw [e]
  unfold Ieee.Format.nearest
  split
  · rename_i h0
    rcases key 0 (Nat.zero_le _) with ⟨m', i', h1, h2⟩ | h1
    · exact .inl ⟨m', i', h1, fun _ => h2 rfl⟩
    · exact .inr h1
  · rename_i h0
    rcases key _ (Nat.min_le_right _ f.infRung) with ⟨m', i', h1, h2⟩ | h1
    · exact .inl ⟨m', i', h1, fun h => absurd h h0⟩
    · exact .inr h1
/-- From -1 to 0. -/
def NegU (v : Option Nat) : Prop := P2 0 v ∧ ∃ b s m i, v = some b ∧ Ieee.double.read b = .number s m i ∧ (s = true ∨ m = 0)
/-- From 0 to 1. -/
def PosU (v : Option Nat) : Prop := P2 0 v ∧ ∃ b s m i, v = some b ∧ Ieee.double.read b = .number s m i ∧ (s = false ∨ m = 0)
theorem P2_num {B : Nat} {v : Option Nat} (h : P2 B v) (hB : B ≤ 1000) : ∃ b s m i, v = some b ∧ Ieee.double.read b = .number s m i ∧ val m i ≤ 2 ^ (B + K0) ∧ -1074 ≤ i := by
  obtain ⟨b, s, m, i, e1, e2, e3, e4⟩ := In.read (k := .f64) h (R2_lt B hB)
  have e3' : val m i ≤ vr Ieee.double (R2 B) := e3
  rw [vr_R2] at e3'
  exact ⟨b, s, m, i, e1, e2, e3', e4⟩
theorem p2_fin {B : Nat} {s : Bool} {m : Nat} {i : Int} {q : Option Ieee.Datum} (hq : q = some (.number s m i)) (h : P2 B (q.map Ieee.double.write)) (hB : B ≤ 1000) : ∃ m' i', q.map Ieee.double.write = some (Ieee.double.write (.number s m i)) ∧ Ieee.double.read (Ieee.double.write (.number s m i)) = .number s m' i' ∧ (m = 0 → m' = 0) := by
  subst hq
  rcases read_sgn Ieee.double s m i with ⟨m', i', h1, h2⟩ | h1
  · exact ⟨m', i', rfl, h1, h2⟩
  · obtain ⟨b, s', m', i', e1, e2, _⟩ := P2_num h hB
    cases e1
    rw [h1] at e2; cases e2
theorem NegU.mul {x y : Option Nat} (hx : NegU x) (hy : PosU y) : NegU (aop .mul .f64 x y) := by
  obtain ⟨px, a, s, m, i, rfl, ra, hs⟩ := hx
  obtain ⟨py, b, t, n, j, rfl, rb, ht⟩ := hy
  have hp : P2 0 (aop .mul .f64 (some a) (some b)) := @P2.mul 0 0 _ _ px py (by omega)
  refine ⟨hp, ?_⟩
  have e : aop .mul .f64 (some a) (some b) = ((Ieee.double.read a).product (Ieee.double.read b)).map Ieee.double.write := rfl
  rw [e] at hp ⊢
  rw [ra, rb] at hp ⊢
  obtain ⟨m', i', h1, h2, h3⟩ := p2_fin (q := (Ieee.Datum.number s m i).product (.number t n j)) rfl hp (by omega)
  refine ⟨_, _, _, _, h1, h2, ?_⟩
  rcases hs with rfl | rfl
  · rcases ht with rfl | rfl
    · exact .inl rfl
    · exact .inr (h3 (Nat.mul_zero _))
  · exact .inr (h3 (Nat.zero_mul _))
theorem NegU.quo {x : Option Nat} {c n : Nat} {d : Nat} (hx : NegU x) (hc : Ieee.double.read c = .number false n (-(d : Int))) (hn : 2 ^ (d + 0) ≤ n) (hn53 : n.log2 ≤ 52) : NegU (aop .quo .f64 x (some c)) := by
  obtain ⟨px, a, s, m, i, rfl, ra, hs⟩ := hx
  have v1 : vr Ieee.double (R2 0) = 2 ^ (K0 + 0) := by rw [vr_R2, Nat.zero_add, Nat.add_zero]
  have v2 : vr Ieee.double (R2 0) = 2 ^ K0 := by rw [vr_R2, Nat.zero_add]
  have hK := K0_eq
  have hp : P2 0 (aop .quo .f64 (some a) (some c)) := In_quo (E := K0) (g := 0) px (R2_lt _ (by omega)) (R2_lt _ (by omega)) v1 v2 (by omega) (by omega) hc hn hn53
  refine ⟨hp, ?_⟩
  have hn0 : n ≠ 0 := by have := Nat.two_pow_pos (d + 0); omega
  have e : aop .quo .f64 (some a) (some c) = ((Ieee.double.read a).quotient (Ieee.double.fractionBits + 2) (Ieee.double.read c)).map Ieee.double.write := rfl
  rw [e] at hp ⊢
  rw [ra, hc] at hp ⊢
  have hq : (Ieee.Datum.number s m i).quotient (Ieee.double.fractionBits + 2) (.number false n (-(d : Int))) = some (.number (s ^^ false) (2 * (m <<< (Ieee.double.fractionBits + 2 + n.log2 - m.log2) / n) + (m <<< (Ieee.double.fractionBits + 2 + n.log2 - m.log2) % n != 0).toNat) (i - -(d : Int) - ((Ieee.double.fractionBits + 2 + n.log2 - m.log2 : Nat) : Int) - 1)) := by
    simp only [Ieee.Datum.quotient]; rw [if_neg hn0]
  obtain ⟨m', i', h1, h2, h3⟩ := p2_fin hq hp (by omega)
  refine ⟨_, _, _, _, h1, h2, ?_⟩
  rcases hs with rfl | rfl
  · exact .inl rfl
  · exact .inr (h3 (by simp))
theorem val_one : val 4503599627370496 (-52) = 2 ^ (0 + K0) := by
  obtain ⟨q, hq⟩ : ∃ q, K0 = q + 52 := ⟨9948, rfl⟩
  unfold val
  rw [show ((-52 : Int) + (K0 : Int)).toNat = q by omega, show (4503599627370496 : Nat) = 2 ^ 52 by decide, ← Nat.pow_add, show 52 + q = 0 + K0 by omega]
set_option maxRecDepth 100000 in
theorem NegU.one {x : Option Nat} (hx : NegU x) : PosU (aop .add .f64 (some 4607182418800017408) x) := by
  obtain ⟨px, a, s, m, i, rfl, ra, hs⟩ := hx
  have r1 : Ieee.double.read 4607182418800017408 = .number false 4503599627370496 (-52) := by decide +kernel
  obtain ⟨b, s', m0, i0, e1, e2, hv, hi⟩ := P2_num px (by omega)
  cases e1
  rw [ra] at e2
  cases e2
  have hK := K0_eq
  have hone : val 4503599627370496 (-52) = 2 ^ (0 + K0) := val_one
  -- what is summed, over a common place
  obtain ⟨base, hb⟩ : ∃ base, base = min (-52 : Int) i := ⟨_, rfl⟩
  have h1 := scale_val 4503599627370496 (-52) base (by omega) (by omega)
  have h2 := scale_val m i base (by omega) (by omega)
  have hle : m * 2 ^ (i - base).toNat ≤ 4503599627370496 * 2 ^ ((-52 : Int) - base).toNat := by
    refine Nat.le_of_mul_le_mul_right (c := 2 ^ (base + (K0 : Int)).toNat) ?_ (Nat.two_pow_pos _)
    rw [h1, h2, hone]; exact hv
  generalize hX : 4503599627370496 * 2 ^ ((-52 : Int) - base).toNat = X at *
  generalize hY : m * 2 ^ (i - base).toNat = Y at *
  have hsX : Ieee.signed false 4503599627370496 ((-52 : Int) - base).toNat = (X : Int) := by rw [sgn_f, Nat.shiftLeft_eq, hX]
  have hsY : Ieee.signed s m (i - base).toNat = -(Y : Int) := by
    rcases hs with rfl | rfl
    · rw [sgn_t, Nat.shiftLeft_eq, hY]
    · have : Y = 0 := by rw [← hY]; simp
      rw [this]
      unfold Ieee.signed
      cases s <;> simp
  have hsum : (Ieee.Datum.number false 4503599627370496 (-52)).sum (.number s m i) = some (.number false ((X : Int) + -(Y : Int)).natAbs base) := by
    simp only [Ieee.Datum.sum]
    rw [← hb, hsX, hsY]
    congr 2
    split
    · rfl
    · exact decide_eq_false (by omega)
  have e : aop .add .f64 (some 4607182418800017408) (some a) = some (Ieee.double.write (.number false ((X : Int) + -(Y : Int)).natAbs base)) := by
    show ((Ieee.double.read 4607182418800017408).sum (Ieee.double.read a)).map Ieee.double.write = _
    rw [r1, ra, hsum]; rfl
  rw [e]
  have hp : P2 0 (some (Ieee.double.write (.number false ((X : Int) + -(Y : Int)).natAbs base))) := by
    refine write_in (k := .f64) (by omega) (R2_lt _ (by omega)) ?_
    show val _ base ≤ vr Ieee.double (R2 0)
    rw [vr_R2, ← hone]
    have : val ((X : Int) + -(Y : Int)).natAbs base ≤ val X base := Nat.mul_le_mul_right _ (by omega)
    have e3 : val X base = val 4503599627370496 (-52) := by unfold val; unfold val at h1; exact h1
    omega
  refine ⟨hp, ?_⟩
  rcases read_sgn Ieee.double false ((X : Int) + -(Y : Int)).natAbs base with ⟨m', i', h3, h4⟩ | h3
  · exact ⟨_, _, _, _, rfl, h3, .inl rfl⟩
  · obtain ⟨b, s', m', i', e1, e2, _⟩ := P2_num hp (by omega)
    cases e1
    rw [h3] at e2; cases e2
theorem one_pos : PosU (some 4607182418800017408) := ⟨one_in, _, _, _, _, rfl, (by decide +kernel : Ieee.double.read 4607182418800017408 = .number false 4503599627370496 (-52)), .inl rfl⟩
theorem expP_pos {t : Option Nat} (ht : NegU t) : ∀ j, j ≤ 12 → PosU (expP t j)
  | 0, _ => one_pos
  | j + 1, hj => by
    have ih := expP_pos ht j (by omega)
    obtain ⟨c, n, d, h1, h2, h3, h4⟩ := kdiv j (by omega)
    have e : expP t (j + 1) = aop .add .f64 (some 4607182418800017408) (aop .quo .f64 (aop .mul .f64 t (expP t j)) (av .f64 (floatOfInt .f64 (12 - (j : Int))))) := rfl
    rw [e, h1]
    exact ((ht.mul ih).quo h2 h3 h4).one
theorem expS_one {v : Option Nat} (h : P2 0 v) : ∀ j, P2 0 (expS v j)
  | 0 => h
  | j + 1 => @P2.mul 0 0 _ _ (expS_one h j) (expS_one h j) (by omega)
/-- From -200 to 0. -/
def Less200 (x : Nat) : Prop := ∃ s m i, Ieee.single.read x = .number s m i ∧ (s = true ∨ m = 0) ∧ val m i ≤ val 13107200 (-16)
theorem val200 : val 13107200 (-16) ≤ 2 ^ (8 + K0) := by
  obtain ⟨q, hq⟩ : ∃ q, K0 = q + 16 := ⟨9984, rfl⟩
  unfold val
  rw [show ((-16 : Int) + (K0 : Int)).toNat = q by omega, show 8 + K0 = 24 + q by omega, Nat.pow_add]
  exact Nat.mul_le_mul_right _ (by decide)
theorem widen_neg {x : Nat} (h : Less200 x) : In .f64 (R2 8) (widen (av .f32 x)) ∧ ∃ b s m i, widen (av .f32 x) = some b ∧ Ieee.double.read b = .number s m i ∧ (s = true ∨ m = 0) := by
  obtain ⟨s, m, i, e, hs, hv⟩ := h
  have hi := read_ge e
  rw [av_num e]
  have ew : widen (some x) = some (Ieee.double.write (.number s m i)) := by show some (Ieee.double.write (Ieee.single.read x)) = _; rw [e]
  rw [ew]
  have hin : In .f64 (R2 8) (some (Ieee.double.write (.number s m i))) := by
    refine write_in (k := .f64) (by omega) (R2_lt _ (by omega)) ?_
    show val m i ≤ vr Ieee.double (R2 8)
    rw [vr_R2]; exact Nat.le_trans hv val200
  refine ⟨hin, ?_⟩
  rcases read_sgn Ieee.double s m i with ⟨m', i', h3, h4⟩ | h3
  · refine ⟨_, _, _, _, rfl, h3, ?_⟩
    rcases hs with hs | hs
    · exact .inl hs
    · exact .inr (h4 hs)
  · obtain ⟨b, s', m', i', e1, e2, _⟩ := P2_num (B := 8) hin (by omega)
    cases e1
    rw [h3] at e2; cases e2
theorem expT_neg {x : Nat} (h : Less200 x) : NegU (expT x) := by
  obtain ⟨hin, b, s, m, i, e1, e2, hs⟩ := widen_neg h
  have hc : Ieee.double.read 4643211215818981376 = .number false 4503599627370496 (-((44 : Nat) : Int)) := by decide +kernel
  have hK := K0_eq
  have hp : P2 0 (expT x) := In_quo (E := K0) (g := 8) hin (R2_lt _ (by omega)) (R2_lt _ (by omega)) (by rw [vr_R2, Nat.add_comm]) (by rw [vr_R2, Nat.zero_add]) (by omega) (by omega) hc (by decide) (by decide)
  refine ⟨hp, ?_⟩
  unfold expT at hp ⊢
  rw [e1] at hp ⊢
  have e : aop .quo .f64 (some b) (some 4643211215818981376) = ((Ieee.double.read b).quotient (Ieee.double.fractionBits + 2) (Ieee.double.read 4643211215818981376)).map Ieee.double.write := rfl
  rw [e] at hp ⊢
  rw [e2, hc] at hp ⊢
  have hq : (Ieee.Datum.number s m i).quotient (Ieee.double.fractionBits + 2) (.number false 4503599627370496 (-((44 : Nat) : Int))) = some (.number (s ^^ false) (2 * (m <<< (Ieee.double.fractionBits + 2 + (4503599627370496 : Nat).log2 - m.log2) / 4503599627370496) + (m <<< (Ieee.double.fractionBits + 2 + (4503599627370496 : Nat).log2 - m.log2) % 4503599627370496 != 0).toNat) (i - -((44 : Nat) : Int) - ((Ieee.double.fractionBits + 2 + (4503599627370496 : Nat).log2 - m.log2 : Nat) : Int) - 1)) := by
    simp only [Ieee.Datum.quotient]; rw [if_neg (by decide)]
  obtain ⟨m', i', h1, h2, h3⟩ := p2_fin hq hp (by omega)
  refine ⟨_, _, _, _, h1, h2, ?_⟩
  rcases hs with rfl | rfl
  · exact .inl rfl
  · exact .inr (h3 (by simp))
theorem expW_one {x : Nat} (h : Less200 x) : P2 0 (expW x) := expS_one (expP_pos (expT_neg h) 12 (by omega)).1 8
theorem expW_ok' {x : Nat} (h : Less200 x) : In .f64 R127 (expW x) := P2_R127 (expW_one h) (by omega)
/-- Of at most 0, or infinitely little. -/
def NonPos (x : Nat) : Prop := (∃ s m i, Ieee.single.read x = .number s m i ∧ (s = true ∨ m = 0)) ∨ Ieee.single.read x = .infinity true
theorem nonpos_num {x : Nat} (h : NonPos x) : av .f32 x = some x := by
  rcases h with ⟨s, m, i, e, _⟩ | e
  · exact av_num e
  · exact av_inf e
theorem fK_m200 : fK 3276275712 = -((13107200 * 2 ^ 133 : Nat) : Int) := by decide +kernel
theorem fK_200 : fK 1128792064 = ((13107200 * 2 ^ 133 : Nat) : Int) := by decide +kernel
theorem av_200s : av .f32 1128792064 = some 1128792064 ∧ av .f32 3276275712 = some 3276275712 := by decide +kernel
theorem nonpos_K {x : Nat} (h : NonPos x) : fK x ≤ 0 := by
  have hb := big_pos
  unfold fK
  rcases h with ⟨s, m, i, e, hs⟩ | e
  · rw [e]
    show Ieee.signed s m (i + 149).toNat ≤ 0
    rcases hs with rfl | rfl
    · rw [sgn_t]; generalize m <<< (i + 149).toNat = z; omega
    · unfold Ieee.signed; simp
  · rw [e]; show (if true = true then -big else big) ≤ 0; rw [if_pos rfl]; omega
theorem nonpos_gt {x : Nat} (h : NonPos x) : (FloatKind.f32.format.order x 1128792064 == some Ordering.gt) = false := by
  have h1 := gtB_K (nonpos_num h) av_200s.1
  have h2 := nonpos_K h
  have h3 := fK_200
  have h4 : decide (fK 1128792064 < fK x) = false := decide_eq_false (by rw [h3]; omega)
  rw [h4] at h1
  exact h1
theorem nonpos_less {x : Nat} (h : NonPos x) (hl : ltB x 3276275712 = false) : Less200 x := by
  rw [ltB_K (nonpos_num h) av_200s.2] at hl
  have h1 := of_decide_eq_false hl
  rw [fK_m200] at h1
  rcases h with ⟨s, m, i, e, hs⟩ | e
  · refine ⟨s, m, i, e, hs, ?_⟩
    have hi := read_ge e
    rcases hs with rfl | rfl
    · have e1 : fK x = -((m * 2 ^ (i + 149).toNat : Nat) : Int) := by
        unfold fK; rw [e]; show Ieee.signed true m (i + 149).toNat = _; rw [sgn_t, Nat.shiftLeft_eq]
      rw [e1] at h1
      have h2 : m * 2 ^ (i + 149).toNat ≤ 13107200 * 2 ^ 133 := by omega
      obtain ⟨q, hq⟩ : ∃ q, K0 = q + 149 := ⟨9851, rfl⟩
      unfold val
      rw [show (i + (K0 : Int)).toNat = (i + 149).toNat + q by omega, show ((-16 : Int) + (K0 : Int)).toNat = 133 + q by omega, Nat.pow_add, Nat.pow_add, ← Nat.mul_assoc, ← Nat.mul_assoc]
      exact Nat.mul_le_mul_right _ h2
    · unfold val; simp
  · exfalso
    have e1 : fK x = -big := by unfold fK; rw [e]; rfl
    rw [e1] at h1
    have h2 : -big < -((13107200 * 2 ^ 133 : Nat) : Int) := by decide +kernel
    omega
set_option maxRecDepth 100000 in
set_option maxHeartbeats 2000000 in
theorem implExp_gen (x : Nat) (h1 : (FloatKind.f32.format.order x 1128792064 == some Ordering.gt) = false) (h2 : (FloatKind.f32.format.order x 3276275712 == some Ordering.lt) = false) (hs : In .f64 R127 (expW x)) (w : World) : Calls Try.prog 120 #[.float .f32 x] w (Num32 (narrow (expW x)) w) := by
  have HS := Lib.hid hs
  clear hs
  go_enter Try.func120, Try.ntmps120
  go_wp2_with (first | (refine wpList_widen _ _ _ _ rfl Try.underlying23 Try.underlying28 ?_; intro fw nw hw) | (refine wpList_farith (dst := some 14) _ _ _ _ _ .f64 _ _ rfl rfl rfl ?_; intro ft nt ht))
  have HT : Hid (Fv .f64 (expT x) ft) := Lib.hid (by unfold expT; rw [← hw.2, ← av64_256]; exact ht)
  clear hw ht
  go_loopw [4, 5] (fun p k wr => ∃ (j : Nat) (kk : Int), (j ≤ 12 ∧ kk = 12 - (j : Int)) ∧ k = .int .i64 kk ∧ ∃ r n', p = .float .f64 r ∧ Fv .f64 (expP (expT x) j) r ∧ wr = w.drewN n') (fun _ k _ => (intOf k).toNat)
  case atStart => exact ⟨0, 12, ⟨Nat.zero_le _, rfl⟩, rfl, _, _, rfl, ⟨by decide, av64_1⟩, rfl⟩
  case round =>
    obtain ⟨j, kk, ⟨hj, hkk⟩, rfl, r, n1, rfl, hr, rfl⟩ := hrel
    have HR := Lib.hid (And.intro hr hkk)
    by_cases hlt : j < 12
    · have hk1 : (1 : Int) ≤ kk := by omega
      have hk2 : kk ≤ 12 := by omega
      clear hr hkk
      go_wp2_with (first | (refine wpList_farith (dst := some 21) _ _ _ _ _ .f64 _ _ rfl rfl rfl ?_; intro f1 n2 h1) | (refine wpList_farith (dst := some 24) _ _ _ _ _ .f64 _ _ rfl rfl rfl ?_; intro f2 n3 h2) | (refine wpList_farith (dst := some 25) _ _ _ _ _ .f64 _ _ rfl rfl rfl ?_; intro f3 n4 h3))
      go_roundw
      case rel => exact ⟨j + 1, kk - 1, ⟨by omega, by have := HR.out.2; omega⟩, rfl, f3, _, rfl, exp_step HT.out HR.out.1 h1 (by rw [← HR.out.2]; exact h2) h3, by first | rfl | simp⟩
      case measure => simp [intOf]; omega
    · obtain rfl : j = 12 := by omega
      have hk1 : kk < 1 := by omega
      clear hr hkk hj hlt
      go_wp2_with fail
      go_loopw [4, 26] (fun p k wr => ∃ j : Nat, j ≤ 8 ∧ k = .int .i64 (j : Int) ∧ ∃ r n', p = .float .f64 r ∧ Fv .f64 (expS (expP (expT x) 12) j) r ∧ wr = w.drewN n') (fun _ k _ => 8 - (intOf k).toNat)
      case atStart => exact ⟨0, Nat.zero_le _, rfl, _, _, rfl, HR.out.1, rfl⟩
      case round =>
        obtain ⟨j, hj, rfl, r, n1, rfl, hr, rfl⟩ := hrel
        have HQ := Lib.hid hr
        clear hr
        by_cases hlt : j < 8
        · have hk1 : (j : Int) < 8 := by omega
          go_wp2_with (first | (refine wpList_farith (dst := some 30) _ _ _ _ _ .f64 _ _ rfl rfl rfl ?_; intro f1 n2 h1))
          go_roundw
          case rel => exact ⟨j + 1, by omega, by go_num, f1, _, rfl, sq_step HQ.out h1, by first | rfl | simp⟩
          case measure => simp [intOf]; omega
        · obtain rfl : j = 8 := by omega
          have hk : av .f64 r = none ∨ In .f64 R127 (av .f64 r) ∨ (Ieee.double.read r).isInfinity = true := .inr (.inl (by rw [HQ.out.2]; exact HS.out))
          go_wp2_with (refine wpList_narrow _ _ _ _ rfl Try.underlying28 Try.underlying23 hk ?_; intro rr nn hrr)
          go_ret
          exact ⟨rr, _, rfl, by rw [HQ.out.2] at hrr; exact hrr, rfl⟩
set_option maxRecDepth 100000 in
set_option maxHeartbeats 2000000 in
theorem l01ExpWide_gen (x fw : Nat) (ho1 : (FloatKind.f32.format.order x 1128792064 == some Ordering.gt) = false) (ho2 : (FloatKind.f32.format.order x 3276275712 == some Ordering.lt) = false) (hn : av .f32 x = some x) (hw : Fv .f64 (widen (av .f32 x)) fw) (w : World) : Calls Try.prog 146 #[.float .f64 fw] w (NumL (expW x) w) := by
  have ha : ∃ d, av .f64 fw = some d := by rw [hw.2, hn]; exact ⟨_, rfl⟩
  obtain ⟨d, hd⟩ := ha
  have h0 := neq_self_num .f64 fw d hd
  have h1 : (FloatKind.f64.format.order fw 4641240890982006784 == some Ordering.gt) = false := by rw [aord_order .f64, hw.2, av200, ← wide200, aord_widen', ← aord_order]; exact ho1
  have h2 : (FloatKind.f64.format.order fw 13864612927836782592 == some Ordering.lt) = false := by rw [aord_order .f64, hw.2, avm200, ← widem200, aord_widen', ← aord_order]; exact ho2
  have HW := Lib.hid hw
  clear ho1 ho2 hn hd hw
  go_enter Try.func146, Try.ntmps146
  go_wp2_with (first | (refine wpList_farith (dst := some 17) _ _ _ _ _ .f64 _ _ rfl rfl rfl ?_; intro ft nt ht))
  have HT : Hid (Fv .f64 (expT x) ft) := Lib.hid (by unfold expT; rw [← HW.out.2, ← av64_256]; exact ht)
  clear ht h0 h1 h2
  go_loopw [4, 5] (fun p k wr => ∃ (j : Nat) (kk : Int), (j ≤ 12 ∧ kk = 12 - (j : Int)) ∧ k = .int .i64 kk ∧ ∃ r n', p = .float .f64 r ∧ Fv .f64 (expP (expT x) j) r ∧ wr = w.drewN n') (fun _ k _ => (intOf k).toNat)
  case atStart => exact ⟨0, 12, ⟨Nat.zero_le _, rfl⟩, rfl, _, _, rfl, ⟨by decide, av64_1⟩, rfl⟩
  case round =>
    obtain ⟨j, kk, ⟨hj, hkk⟩, rfl, r, n1, rfl, hr, rfl⟩ := hrel
    have HR := Lib.hid (And.intro hr hkk)
    by_cases hlt : j < 12
    · have hk1 : (1 : Int) ≤ kk := by omega
      have hk2 : kk ≤ 12 := by omega
      clear hr hkk
      go_wp2_with (first | (refine wpList_farith (dst := some 24) _ _ _ _ _ .f64 _ _ rfl rfl rfl ?_; intro f1 n2 h1) | (refine wpList_farith (dst := some 27) _ _ _ _ _ .f64 _ _ rfl rfl rfl ?_; intro f2 n3 h2) | (refine wpList_farith (dst := some 28) _ _ _ _ _ .f64 _ _ rfl rfl rfl ?_; intro f3 n4 h3))
      go_roundw
      case rel => exact ⟨j + 1, kk - 1, ⟨by omega, by have := HR.out.2; omega⟩, rfl, f3, _, rfl, exp_step HT.out HR.out.1 h1 (by rw [← HR.out.2]; exact h2) h3, by first | rfl | simp⟩
      case measure => simp [intOf]; omega
    · obtain rfl : j = 12 := by omega
      have hk1 : kk < 1 := by omega
      clear hr hkk hj hlt
      go_wp2_with fail
      go_loopw [4, 6] (fun p k wr => ∃ j : Nat, j ≤ 8 ∧ k = .int .i64 (j : Int) ∧ ∃ r n', p = .float .f64 r ∧ Fv .f64 (expS (expP (expT x) 12) j) r ∧ wr = w.drewN n') (fun _ k _ => 8 - (intOf k).toNat)
      case atStart => exact ⟨0, Nat.zero_le _, rfl, _, _, rfl, HR.out.1, rfl⟩
      case round =>
        obtain ⟨j, hj, rfl, r, n1, rfl, hr, rfl⟩ := hrel
        have HQ := Lib.hid hr
        clear hr
        by_cases hlt : j < 8
        · have hk1 : (j : Int) < 8 := by omega
          go_wp2_with (first | (refine wpList_farith (dst := some 35) _ _ _ _ _ .f64 _ _ rfl rfl rfl ?_; intro f1 n2 h1))
          go_roundw
          case rel => exact ⟨j + 1, by omega, by go_num, f1, _, rfl, sq_step HQ.out h1, by first | rfl | simp⟩
          case measure => simp [intOf]; omega
        · obtain rfl : j = 8 := by omega
          go_wp2_with fail
          go_ret
          exact ⟨r, _, rfl, HQ.out, rfl⟩

set_option maxRecDepth 100000 in
theorem l01ExpWide_far (x fw : Nat) (ho1 : (FloatKind.f32.format.order x 1128792064 == some Ordering.gt) = false) (ho2 : (FloatKind.f32.format.order x 3276275712 == some Ordering.lt) = true) (hn : av .f32 x = some x) (hw : Fv .f64 (widen (av .f32 x)) fw) (w : World) : Calls Try.prog 146 #[.float .f64 fw] w (Ret (.float .f64 0) w) := by
  have ha : ∃ d, av .f64 fw = some d := by rw [hw.2, hn]; exact ⟨_, rfl⟩
  obtain ⟨d, hd⟩ := ha
  have h0 := neq_self_num .f64 fw d hd
  have h1 : (FloatKind.f64.format.order fw 4641240890982006784 == some Ordering.gt) = false := by rw [aord_order .f64, hw.2, av200, ← wide200, aord_widen', ← aord_order]; exact ho1
  have h2 : (FloatKind.f64.format.order fw 13864612927836782592 == some Ordering.lt) = true := by rw [aord_order .f64, hw.2, avm200, ← widem200, aord_widen', ← aord_order]; exact ho2
  clear ho1 ho2 hn hd hw
  go_enter Try.func146, Try.ntmps146
  go_wp2
  go_ret
  exact ⟨0, rfl, rfl⟩

/-- What the exponential function of a number of at most 0 is. -/
def expB (x : Nat) : Nat := if ltB x 3276275712 = true then 0 else (narrow (expW x)).getD 0
theorem expW_num' {x : Nat} (h : Less200 x) : ∃ L, narrow (expW x) = some L ∧ av .f32 L = some L := by
  obtain ⟨b, s, m, i, e1, e2, _, _⟩ := In.read (k := .f64) (R := R2 0) (expW_one h) (R2_lt 0 (by omega))
  rw [e1]
  refine ⟨_, rfl, av_some (k := .f32) ?_⟩
  refine read_write Ieee.single _ ?_
  have e2' : Ieee.double.read b = .number s m i := e2
  rw [e2']; rfl
theorem expB_av {x : Nat} (h : NonPos x) : av .f32 (expB x) = some (expB x) := by
  unfold expB
  split
  · exact av_zero .f32
  · rename_i hl
    obtain ⟨L, h1, h2⟩ := expW_num' (nonpos_less h (by simpa using hl))
    rw [h1]; exact h2
theorem implExp_neg (x : Nat) (h : NonPos x) (w : World) : Calls Try.prog 120 #[.float .f32 x] w (Ret (.float .f32 (expB x)) w) := by
  have h1 := nonpos_gt h
  cases hl : ltB x 3276275712 with
  | true =>
    have HB : Hid (expB x = 0) := Lib.hid (by unfold expB; rw [if_pos hl])
    have h2 := (show (FloatKind.f32.format.order x 3276275712 == some Ordering.lt) = _ from hl)
    clear hl h
    go_enter Try.func120, Try.ntmps120
    go_wp2
    go_ret
    exact ⟨0, by rw [HB.out]; rfl, rfl⟩
  | false =>
    obtain ⟨L, e1, e2⟩ := expW_num' (nonpos_less h hl)
    have HB : expB x = L := by unfold expB; rw [if_neg (by rw [hl]; exact Bool.false_ne_true), e1]; rfl
    refine (implExp_gen x h1 ((show (FloatKind.f32.format.order x 3276275712 == some Ordering.lt) = _ from hl)) (expW_ok' (nonpos_less h hl)) w).mono ?_
    rintro e w' ⟨r, n, rfl, hr, rfl⟩
    rw [e1] at hr
    exact ⟨n, by rw [HB, av_eq hr.2], rfl⟩
theorem narrow_0 : narrow (some 0) = some 0 := by decide +kernel
set_option maxRecDepth 100000 in
theorem l01Exp_neg (x : Nat) (h : NonPos x) (w : World) : Calls Try.prog 134 #[.float .f32 x] w (Ret (.float .f32 (expB x)) w) := by
  have h1 := nonpos_gt h
  have hn := nonpos_num h
  cases hl : ltB x 3276275712 with
  | true =>
    have HB : Hid (expB x = 0) := Lib.hid (by unfold expB; rw [if_pos hl])
    have HH := Lib.hid (And.intro h1 (And.intro ((show (FloatKind.f32.format.order x 3276275712 == some Ordering.lt) = _ from hl)) hn))
    clear hl h h1 hn
    go_enter Try.func134, Try.ntmps134
    go_wp2_with (first | (go_at_call 146; fail) | (refine wpList_widen _ _ _ _ rfl Try.underlying23 Try.underlying28 ?_; intro r n hr))
    refine (l01ExpWide_far x r HH.out.1 HH.out.2.1 HH.out.2.2 hr _).mono ?_
    rintro e w' ⟨n2, rfl, rfl⟩
    clear hr
    go_wp2_with fail
    refine (l01Narrow_32 0 (some 0) ⟨by decide, av_zero .f64⟩ (.inr (.inl ⟨0, rfl, Nat.zero_le _⟩)) _).mono ?_
    rintro e w' ⟨r3, n3, rfl, hr3, rfl⟩
    rw [narrow_0] at hr3
    have e3 := av_eq hr3.2
    subst e3
    go_wp2_with fail
    go_ret
    exact ⟨_, by rw [HB.out]; rfl, rfl⟩
  | false =>
    obtain ⟨L, e1, e2⟩ := expW_num' (nonpos_less h hl)
    have HB : Hid (expB x = L) := Lib.hid (by unfold expB; rw [if_neg (by rw [hl]; exact Bool.false_ne_true), e1]; rfl)
    have HH := Lib.hid (And.intro h1 (And.intro ((show (FloatKind.f32.format.order x 3276275712 == some Ordering.lt) = _ from hl)) (And.intro hn (And.intro (expW_ok' (nonpos_less h hl)) e1))))
    clear hl h h1 hn e1
    go_enter Try.func134, Try.ntmps134
    go_wp2_with (first | (go_at_call 146; fail) | (refine wpList_widen _ _ _ _ rfl Try.underlying23 Try.underlying28 ?_; intro r n hr))
    refine (l01ExpWide_gen x r HH.out.1 HH.out.2.1 HH.out.2.2.1 hr _).mono ?_
    rintro e w' ⟨r2, n2, rfl, hr2, rfl⟩
    have HR := Lib.hid hr2
    clear hr hr2
    go_wp2_with fail
    refine (l01Narrow_32 _ _ HR.out (.inr (.inl HH.out.2.2.2.1)) _).mono ?_
    rintro e w' ⟨r3, n3, rfl, hr3, rfl⟩
    rw [HH.out.2.2.2.2] at hr3
    have e3 := av_eq hr3.2
    subst e3
    go_wp2_with fail
    go_ret
    exact ⟨_, by rw [HB.out]; rfl, rfl⟩
end Go.Proofs.Ytlnhobikejbkkaa
