/- The exponential function of small numbers: what the code and its model return. -/
import Derived.Test.YtlnhobikejbkkaaNg
namespace Go.Proofs.Ytlnhobikejbkkaa
open Go Go.RowKit Fl
set_option linter.unusedVariables false

/-! ### Bounds -/
theorem In_quo {R R' E g : Nat} {x : Option Nat} {c n d : Nat} {s : Bool} (hx : In .f64 R x) (hR : R < FloatKind.f64.format.infRung) (hR' : R' < FloatKind.f64.format.infRung) (hv : vr Ieee.double R = 2 ^ (E + g)) (hv' : vr Ieee.double R' = 2 ^ E) (hE : 9000 ≤ E) (hE2 : E + g ≤ 11000)
    (hc : Ieee.double.read c = .number s n (-(d : Int))) (hn : 2 ^ (d + g) ≤ n) (hn53 : n.log2 ≤ 52) : In .f64 R' (aop .quo .f64 x (some c)) := by
  have hK := K0_eq
  obtain ⟨a, t, m, i, rfl, ha, hm, hi, hm53⟩ := hx.read' hR
  have ha' : Ieee.double.read a = .number t m i := ha
  have hm' : val m i ≤ vr Ieee.double R := hm
  have hi' : (-1074 : Int) ≤ i := hi
  rw [hv] at hm'
  have hn0 : n ≠ 0 := by have := Nat.two_pow_pos (d + g); omega
  have hml : m.log2 ≤ 52 := by
    rcases Nat.eq_zero_or_pos m with h0 | h0
    · subst h0; decide
    · have : m < 2 ^ 53 := hm53
      have := (Nat.log2_lt (by omega) (k := 53)).2 this
      omega
  have hnd : d + g ≤ n.log2 := by
    have h1 : 2 ^ (d + g) < 2 ^ (n.log2 + 1) := Nat.lt_of_le_of_lt hn Nat.lt_log2_self
    have := (Nat.pow_lt_pow_iff_right (a := 2) (by omega)).1 h1
    omega
  show In .f64 R' (Ieee.double.div a c)
  unfold Ieee.Format.div
  rw [ha', hc]
  simp only [Ieee.Datum.quotient]
  rw [if_neg hn0]
  simp only [Option.map_some]
  rw [show Ieee.double.fractionBits + 2 = 54 from rfl]
  generalize hmore : 54 + n.log2 - m.log2 = more
  refine write_in (k := .f64) (by omega) hR' ?_
  show _ ≤ vr Ieee.double R'
  rw [hv']
  unfold val at hm' ⊢
  by_cases h0 : m = 0
  · subst h0; simp
  have hex : (m.log2 : Int) + i + (K0 : Int) ≤ (E : Int) + g := by
    have h1 := pow_log_le m (i + (K0 : Int)).toNat h0
    have h2 : 2 ^ (m.log2 + (i + (K0 : Int)).toNat) ≤ 2 ^ (E + g) := Nat.le_trans h1 hm'
    have h3 : m.log2 + (i + (K0 : Int)).toNat ≤ E + g := (Nat.pow_le_pow_iff_right (by omega)).1 h2
    omega
  have he : (i - -(d : Int) - (more : Int) - 1 + (K0 : Int)).toNat = (i + d - more + K0).toNat - 1 := by omega
  rw [he]
  refine quo_bound _ _ _ _ ?_ ?_ (by omega)
  · rw [Nat.shiftLeft_eq, Nat.mul_assoc, ← Nat.pow_add]
    have e2 : more + (i + (d : Int) - (more : Int) + (K0 : Int)).toNat = (i + (K0 : Int)).toNat + d := by omega
    rw [e2, Nat.pow_add, ← Nat.mul_assoc]
    calc m * 2 ^ (i + (K0 : Int)).toNat * 2 ^ d ≤ 2 ^ (E + g) * 2 ^ d := Nat.mul_le_mul_right _ hm'
      _ = 2 ^ E * 2 ^ (d + g) := by rw [← Nat.pow_add, ← Nat.pow_add, Nat.add_assoc, Nat.add_comm g d]
      _ ≤ 2 ^ E * n := Nat.mul_le_mul_left _ hn
  · exact Nat.pow_dvd_pow 2 (by omega)
def Rm3 : Nat := 4593671619917905920
def Rm2 : Nat := 4598175219545276416
def R125 : Nat := 4608308318706860032
def R156 : Nat := 4609715693590413312
def R25 : Nat := 4612811918334230528
theorem Rs_lt : Rm3 < FloatKind.f64.format.infRung ∧ Rm2 < FloatKind.f64.format.infRung ∧ R125 < FloatKind.f64.format.infRung ∧ R156 < FloatKind.f64.format.infRung ∧ R25 < FloatKind.f64.format.infRung := by decide +kernel
theorem vr_r5 : vr Ieee.double (R2 5) = 2 ^ (9997 + 8) := by decide +kernel
theorem vr_m20 : vr Ieee.double Rm2 = 2 ^ (9998 + 0) := by decide +kernel
theorem vr_m3 : vr Ieee.double Rm3 = 2 ^ 9997 := by decide +kernel
theorem vr_m2 : vr Ieee.double Rm2 = 2 ^ 9998 := by decide +kernel
theorem e1_mul : vr Ieee.double Rm3 * vr Ieee.double R125 ≤ vr Ieee.double Rm2 * 2 ^ K0 := by decide +kernel
theorem e2_add : vr Ieee.double (R2 0) + vr Ieee.double Rm2 ≤ vr Ieee.double R125 := by decide +kernel
theorem e3_mul : vr Ieee.double R125 * vr Ieee.double R125 ≤ vr Ieee.double R156 * 2 ^ K0 := by decide +kernel
theorem e4_mul : vr Ieee.double R156 * vr Ieee.double R156 ≤ vr Ieee.double R25 * 2 ^ K0 := by decide +kernel
theorem e5_mul : vr Ieee.double R25 * vr Ieee.double R25 ≤ vr Ieee.double (R2 3) * 2 ^ K0 := by decide +kernel
/-! ### Values -/
def expT (x : Nat) : Option Nat := aop .quo .f64 (widen (av .f32 x)) (some 4643211215818981376)
def expP (t : Option Nat) : Nat → Option Nat
  | 0 => some 4607182418800017408
  | j + 1 => aop .add .f64 (some 4607182418800017408) (aop .quo .f64 (aop .mul .f64 t (expP t j)) (av .f64 (floatOfInt .f64 (12 - (j : Int)))))
def expS (v : Option Nat) : Nat → Option Nat
  | 0 => v
  | j + 1 => aop .mul .f64 (expS v j) (expS v j)
def expW (x : Nat) : Option Nat := expS (expP (expT x) 12) 8
theorem av64_1 : av .f64 4607182418800017408 = some 4607182418800017408 := by decide +kernel
theorem av64_256 : av .f64 4643211215818981376 = some 4643211215818981376 := by decide +kernel
/-- At most 32 from 0. -/
def Small (x : Nat) : Prop := ∃ s m i, Ieee.single.read x = .number s m i ∧ val m i ≤ 2 ^ (5 + K0)
theorem widen_in {x : Nat} (h : Small x) : In .f64 (R2 5) (widen (av .f32 x)) := by
  obtain ⟨s, m, i, e, hv⟩ := h
  rw [av_num e]
  show In .f64 (R2 5) (some (Ieee.double.write (Ieee.single.read x)))
  rw [e]
  have hi : -149 ≤ i ∨ m = 0 := by
    rcases read_single x with ⟨s', m', i', e', hm⟩ | ⟨s', e'⟩ | ⟨s', f, e'⟩
    · rw [e] at e'
      injection e' with _ h2 h3
      by_cases h0 : m = 0
      · exact .inr h0
      · have := hm (by rw [← h2]; exact h0)
        left; omega
    · rw [e] at e'; cases e'
    · rw [e] at e'; cases e'
  rcases hi with hi | hi
  · refine write_in (k := .f64) (by omega) (R2_lt _ (by omega)) ?_
    show val m i ≤ vr Ieee.double (R2 5)
    rw [vr_R2]; exact hv
  · subst hi
    show In .f64 (R2 5) (some (Ieee.double.word s 0))
    cases s <;> exact ⟨_, rfl, by decide +kernel⟩
theorem expT_in {x : Nat} (h : Small x) : In .f64 Rm3 (expT x) := by
  have hc : Ieee.double.read 4643211215818981376 = .number false 4503599627370496 (-((44 : Nat) : Int)) := by decide +kernel
  exact In_quo (E := 9997) (g := 8) (widen_in h) (R2_lt _ (by omega)) Rs_lt.1 vr_r5 vr_m3 (by omega) (by omega) hc (by decide) (by decide)
theorem kdiv (j : Nat) (hj : j < 12) : ∃ c n d, av .f64 (floatOfInt .f64 (12 - (j : Int))) = some c ∧ Ieee.double.read c = .number false n (-((d : Nat) : Int)) ∧ 2 ^ (d + 0) ≤ n ∧ n.log2 ≤ 52 := by
  obtain rfl | rfl | rfl | rfl | rfl | rfl | rfl | rfl | rfl | rfl | rfl | rfl : j = 0 ∨ j = 1 ∨ j = 2 ∨ j = 3 ∨ j = 4 ∨ j = 5 ∨ j = 6 ∨ j = 7 ∨ j = 8 ∨ j = 9 ∨ j = 10 ∨ j = 11 := by omega
  · exact ⟨4622945017495814144, 6755399441055744, 49, by decide +kernel, by decide +kernel, by decide +kernel, by decide +kernel⟩
  · exact ⟨4622382067542392832, 6192449487634432, 49, by decide +kernel, by decide +kernel, by decide +kernel, by decide +kernel⟩
  · exact ⟨4621819117588971520, 5629499534213120, 49, by decide +kernel, by decide +kernel, by decide +kernel, by decide +kernel⟩
  · exact ⟨4621256167635550208, 5066549580791808, 49, by decide +kernel, by decide +kernel, by decide +kernel, by decide +kernel⟩
  · exact ⟨4620693217682128896, 4503599627370496, 49, by decide +kernel, by decide +kernel, by decide +kernel, by decide +kernel⟩
  · exact ⟨4619567317775286272, 7881299347898368, 50, by decide +kernel, by decide +kernel, by decide +kernel, by decide +kernel⟩
  · exact ⟨4618441417868443648, 6755399441055744, 50, by decide +kernel, by decide +kernel, by decide +kernel, by decide +kernel⟩
  · exact ⟨4617315517961601024, 5629499534213120, 50, by decide +kernel, by decide +kernel, by decide +kernel, by decide +kernel⟩
  · exact ⟨4616189618054758400, 4503599627370496, 50, by decide +kernel, by decide +kernel, by decide +kernel, by decide +kernel⟩
  · exact ⟨4613937818241073152, 6755399441055744, 51, by decide +kernel, by decide +kernel, by decide +kernel, by decide +kernel⟩
  · exact ⟨4611686018427387904, 4503599627370496, 51, by decide +kernel, by decide +kernel, by decide +kernel, by decide +kernel⟩
  · exact ⟨4607182418800017408, 4503599627370496, 52, by decide +kernel, by decide +kernel, by decide +kernel, by decide +kernel⟩
theorem one_in : In .f64 (R2 0) (some 4607182418800017408) := ⟨_, rfl, by decide +kernel⟩
theorem R23_lt : R2 3 < FloatKind.f64.format.infRung ∧ R2 0 < FloatKind.f64.format.infRung := ⟨R2_lt _ (by omega), R2_lt _ (by omega)⟩
theorem mul1 {t p : Option Nat} (ht : In .f64 Rm3 t) (hp : In .f64 R125 p) : In .f64 Rm2 (aop .mul .f64 t p) := by
  have h := e1_mul
  have l1 := Rs_lt.1
  have l2 := Rs_lt.2.2.1
  have l3 := Rs_lt.2.1
  generalize Rm3 = a at *
  generalize R125 = b at *
  generalize Rm2 = c at *
  exact In.mul ht hp l1 l2 l3 h
theorem mul3 {t p : Option Nat} (ht : In .f64 R125 t) (hp : In .f64 R125 p) : In .f64 R156 (aop .mul .f64 t p) := by
  have h := e3_mul
  have l1 := Rs_lt.2.2.1
  have l2 := Rs_lt.2.2.1
  have l3 := Rs_lt.2.2.2.1
  generalize R125 = a at *
  generalize R156 = c at *
  exact In.mul ht hp l1 l2 l3 h
theorem mul4 {t p : Option Nat} (ht : In .f64 R156 t) (hp : In .f64 R156 p) : In .f64 R25 (aop .mul .f64 t p) := by
  have h := e4_mul
  have l1 := Rs_lt.2.2.2.1
  have l2 := Rs_lt.2.2.2.1
  have l3 := Rs_lt.2.2.2.2
  generalize R156 = a at *
  generalize R25 = c at *
  exact In.mul ht hp l1 l2 l3 h
theorem mul5 {t p : Option Nat} (ht : In .f64 R25 t) (hp : In .f64 R25 p) : In .f64 (R2 3) (aop .mul .f64 t p) := by
  have h := e5_mul
  have l1 := Rs_lt.2.2.2.2
  have l2 := Rs_lt.2.2.2.2
  have l3 := R23_lt.1
  generalize R25 = a at *
  generalize R2 3 = c at *
  exact In.mul ht hp l1 l2 l3 h
theorem add2 {t p : Option Nat} (ht : In .f64 (R2 0) t) (hp : In .f64 Rm2 p) : In .f64 R125 (aop .add .f64 t p) := by
  have h := e2_add
  have l1 := R23_lt.2
  have l2 := Rs_lt.2.1
  have l3 := Rs_lt.2.2.1
  generalize R2 0 = a at *
  generalize Rm2 = b at *
  generalize R125 = c at *
  exact In.add ht hp l1 l2 l3 h
theorem quok {p : Option Nat} {c n d : Nat} (hp : In .f64 Rm2 p) (h2 : Ieee.double.read c = .number false n (-((d : Nat) : Int))) (h3 : 2 ^ (d + 0) ≤ n) (h4 : n.log2 ≤ 52) : In .f64 Rm2 (aop .quo .f64 p (some c)) := by
  have l := Rs_lt.2.1
  have v1 := vr_m20
  have v2 := vr_m2
  generalize Rm2 = b at *
  exact In_quo (E := 9998) (g := 0) hp l l v1 v2 (by omega) (by omega) h2 h3 h4
theorem expP_in {t : Option Nat} (ht : In .f64 Rm3 t) : ∀ j, j ≤ 12 → In .f64 R125 (expP t j)
  | 0, _ => ⟨_, rfl, by decide +kernel⟩
  | j + 1, hj => by
    have ih := expP_in ht j (by omega)
    obtain ⟨c, n, d, h1, h2, h3, h4⟩ := kdiv j (by omega)
    have e : expP t (j + 1) = aop .add .f64 (some 4607182418800017408) (aop .quo .f64 (aop .mul .f64 t (expP t j)) (av .f64 (floatOfInt .f64 (12 - (j : Int))))) := rfl
    rw [e, h1]
    exact add2 one_in (quok (mul1 ht ih) h2 h3 h4)
theorem expW_in {x : Nat} (h : Small x) : P2 96 (expW x) := by
  have h0 := expP_in (expT_in h) 12 (by omega)
  unfold expW
  generalize expP (expT x) 12 = p at *
  have h1 : In .f64 R156 (expS p 1) := mul3 h0 h0
  have h2 : In .f64 R25 (expS p 2) := mul4 h1 h1
  have h3 : P2 3 (expS p 3) := mul5 h2 h2
  have h4 : P2 6 (expS p 4) := @P2.mul 3 3 _ _ h3 h3 (by omega)
  have h5 : P2 12 (expS p 5) := @P2.mul 6 6 _ _ h4 h4 (by omega)
  have h6 : P2 24 (expS p 6) := @P2.mul 12 12 _ _ h5 h5 (by omega)
  have h7 : P2 48 (expS p 7) := @P2.mul 24 24 _ _ h6 h6 (by omega)
  exact @P2.mul 48 48 _ _ h7 h7 (by omega)
theorem sgn_f (n u : Nat) : Ieee.signed false n u = ((n <<< u : Nat) : Int) := rfl
theorem sgn_t (n u : Nat) : Ieee.signed true n u = -((n <<< u : Nat) : Int) := rfl
theorem scale_val (m : Nat) (i b : Int) (h : b ≤ i) (hb : -9000 ≤ b) : m * 2 ^ (i - b).toNat * 2 ^ (b + (K0 : Int)).toNat = val m i := by
  have := val_shift m i b h hb
  unfold val at this ⊢
  exact this
theorem ord_lt {x y : Nat} {s : Bool} {m n : Nat} {i j : Int} (hx : Ieee.single.read x = .number s m i) (hy : Ieee.single.read y = .number false n j) (hi : -4000 ≤ i) (hj : -4000 ≤ j) (h : val m i < val n j) : FloatKind.f32.format.order x y = some .lt := by
  show Ieee.single.order x y = _
  unfold Ieee.Format.order
  rw [hx, hy]
  show (Ieee.Datum.number s m i).order (.number false n j) = _
  rw [order_number s false m n i j (min i j) (by omega) (by omega), compare_int]
  rw [← scale_val m i (min i j) (by omega) (by omega), ← scale_val n j (min i j) (by omega) (by omega)] at h
  have h' := Nat.lt_of_mul_lt_mul_right h
  rw [sgn_f, Nat.shiftLeft_eq]
  have ha := signed_abs s m (i - min i j).toNat
  generalize m * 2 ^ (i - min i j).toNat = X at *
  generalize n * 2 ^ (j - min i j).toNat = Y at *
  rw [if_pos (by omega)]
theorem ord_gt {x y : Nat} {s : Bool} {m n : Nat} {i j : Int} (hx : Ieee.single.read x = .number s m i) (hy : Ieee.single.read y = .number true n j) (hi : -4000 ≤ i) (hj : -4000 ≤ j) (h : val m i < val n j) : FloatKind.f32.format.order x y = some .gt := by
  show Ieee.single.order x y = _
  unfold Ieee.Format.order
  rw [hx, hy]
  show (Ieee.Datum.number s m i).order (.number true n j) = _
  rw [order_number s true m n i j (min i j) (by omega) (by omega), compare_int]
  rw [← scale_val m i (min i j) (by omega) (by omega), ← scale_val n j (min i j) (by omega) (by omega)] at h
  have h' := Nat.lt_of_mul_lt_mul_right h
  rw [sgn_t, Nat.shiftLeft_eq]
  have ha := signed_abs s m (i - min i j).toNat
  generalize m * 2 ^ (i - min i j).toNat = X at *
  generalize n * 2 ^ (j - min i j).toNat = Y at *
  rw [if_neg (by omega), if_neg (by omega)]
theorem read200 : Ieee.single.read 1128792064 = .number false 13107200 (-16) := by decide +kernel
theorem readm200 : Ieee.single.read 3276275712 = .number true 13107200 (-16) := by decide +kernel
theorem lim200 : 2 ^ (5 + K0) < val 13107200 (-16) := by decide +kernel
theorem read_ge {x : Nat} {s : Bool} {m : Nat} {i : Int} (h : Ieee.single.read x = .number s m i) : -149 ≤ i := by
  have hbin := single_bin
  have hinf := single_inf
  unfold Ieee.Format.read at h
  simp only [hbin, hinf, single_least] at h
  split at h
  · cases h; omega
  · split at h
    · cases h; omega
    · split at h <;> cases h
theorem small_ord {x : Nat} (h : Small x) : FloatKind.f32.format.order x 1128792064 = some .lt ∧ FloatKind.f32.format.order x 3276275712 = some .gt := by
  obtain ⟨s, m, i, e, hv⟩ := h
  have hi := read_ge e
  exact ⟨ord_lt e read200 (by omega) (by omega) (Nat.lt_of_le_of_lt hv lim200), ord_gt e readm200 (by omega) (by omega) (Nat.lt_of_le_of_lt hv lim200)⟩
theorem exp_step {t : Option Nat} {j rt r f1 f2 f3 : Nat} (ht : Fv .f64 t rt) (hr : Fv .f64 (expP t j) r) (h1 : Fv .f64 (aop .mul .f64 (av .f64 rt) (av .f64 r)) f1) (h2 : Fv .f64 (aop .quo .f64 (av .f64 f1) (av .f64 (floatOfInt .f64 (12 - (j : Int))))) f2)
    (h3 : Fv .f64 (aop .add .f64 (av .f64 4607182418800017408) (av .f64 f2)) f3) : Fv .f64 (expP t (j + 1)) f3 := by
  have e : expP t (j + 1) = aop .add .f64 (some 4607182418800017408) (aop .quo .f64 (aop .mul .f64 t (expP t j)) (av .f64 (floatOfInt .f64 (12 - (j : Int))))) := rfl
  rw [ht.2, hr.2] at h1
  rw [h1.2] at h2
  rw [h2.2, av64_1] at h3
  rw [e]
  exact h3
theorem sq_step {v : Option Nat} {j r f1 : Nat} (hr : Fv .f64 (expS v j) r) (h1 : Fv .f64 (aop .mul .f64 (av .f64 r) (av .f64 r)) f1) : Fv .f64 (expS v (j + 1)) f1 := by
  have e : expS v (j + 1) = aop .mul .f64 (expS v j) (expS v j) := rfl
  rw [e, ← hr.2]; exact h1
theorem expW_ok {x : Nat} (h : Small x) : In .f64 R127 (expW x) := P2_R127 (expW_in h) (by omega)
set_option maxRecDepth 100000 in
set_option maxHeartbeats 2000000 in
theorem implExp_any (x : Nat) (hs : Small x) (w : World) : Calls Try.prog 120 #[.float .f32 x] w (Num32 (narrow (expW x)) w) := by
  have ho := small_ord hs
  have h1 : (FloatKind.f32.format.order x 1128792064 == some Ordering.gt) = false := by rw [ho.1]; rfl
  have h2 : (FloatKind.f32.format.order x 3276275712 == some Ordering.lt) = false := by rw [ho.2]; rfl
  have HS := Lib.hid hs
  clear hs ho
  go_enter Try.func120, Try.ntmps120
  go_wp2_with (first | (refine wpList_widen _ _ _ _ rfl Try.underlying23 Try.underlying28 ?_; intro fw nw hw) | (refine wpList_farith (dst := some 14) _ _ _ _ _ .f64 _ _ rfl rfl rfl ?_; intro ft nt ht))
  have HT : Hid (Fv .f64 (expT x) ft) := Lib.hid (by unfold expT; rw [← hw.2, ← av64_256]; exact ht)
  clear hw ht
  go_loopw [4, 5] (fun p k wr => ∃ (j : Nat) (kk : Int), (j ≤ 12 ∧ kk = 12 - (j : Int)) ∧ k = .int .i64 kk ∧ ∃ r n', p = .float .f64 r ∧ Fv .f64 (expP (expT x) j) r ∧ wr = w.drewN n') (fun _ k _ => (intOf k).toNat)
  case atStart => exact ⟨0, 12, ⟨Nat.zero_le _, rfl⟩, rfl, _, _, rfl, ⟨by decide, av64_1⟩, rfl⟩
  case round =>
    obtain ⟨j, kk, ⟨hj, hkk⟩, rfl, r, n1, rfl, hr, rfl⟩ := hrel
    have HR := Lib.hid (And.intro hr hkk)
    by_cases hlt : j < 12
    · have hk1 : (1 : Int) ≤ kk := by omega
      have hk2 : kk ≤ 12 := by omega
      clear hr hkk
      go_wp2_with (first | (refine wpList_farith (dst := some 21) _ _ _ _ _ .f64 _ _ rfl rfl rfl ?_; intro f1 n2 h1) | (refine wpList_farith (dst := some 24) _ _ _ _ _ .f64 _ _ rfl rfl rfl ?_; intro f2 n3 h2) | (refine wpList_farith (dst := some 25) _ _ _ _ _ .f64 _ _ rfl rfl rfl ?_; intro f3 n4 h3))
      go_roundw
      case rel => exact ⟨j + 1, kk - 1, ⟨by omega, by have := HR.out.2; omega⟩, rfl, f3, _, rfl, exp_step HT.out HR.out.1 h1 (by rw [← HR.out.2]; exact h2) h3, by first | rfl | simp⟩
      case measure => simp [intOf]; omega
    · obtain rfl : j = 12 := by omega
      have hk1 : kk < 1 := by omega
      clear hr hkk hj hlt
      go_wp2_with fail
      go_loopw [4, 26] (fun p k wr => ∃ j : Nat, j ≤ 8 ∧ k = .int .i64 (j : Int) ∧ ∃ r n', p = .float .f64 r ∧ Fv .f64 (expS (expP (expT x) 12) j) r ∧ wr = w.drewN n') (fun _ k _ => 8 - (intOf k).toNat)
      case atStart => exact ⟨0, Nat.zero_le _, rfl, _, _, rfl, HR.out.1, rfl⟩
      case round =>
        obtain ⟨j, hj, rfl, r, n1, rfl, hr, rfl⟩ := hrel
        have HQ := Lib.hid hr
        clear hr
        by_cases hlt : j < 8
        · have hk1 : (j : Int) < 8 := by omega
          go_wp2_with (first | (refine wpList_farith (dst := some 30) _ _ _ _ _ .f64 _ _ rfl rfl rfl ?_; intro f1 n2 h1))
          go_roundw
          case rel => exact ⟨j + 1, by omega, by go_num, f1, _, rfl, sq_step HQ.out h1, by first | rfl | simp⟩
          case measure => simp [intOf]; omega
        · obtain rfl : j = 8 := by omega
          have hk : av .f64 r = none ∨ In .f64 R127 (av .f64 r) ∨ (Ieee.double.read r).isInfinity = true := .inr (.inl (by rw [HQ.out.2]; exact expW_ok HS.out))
          go_wp2_with (refine wpList_narrow _ _ _ _ rfl Try.underlying28 Try.underlying23 hk ?_; intro rr nn hrr)
          go_ret
          exact ⟨rr, _, rfl, by rw [HQ.out.2] at hrr; exact hrr, rfl⟩
theorem wide200 : widen (av .f32 1128792064) = some 4641240890982006784 := by decide +kernel
theorem widem200 : widen (av .f32 3276275712) = some 13864612927836782592 := by decide +kernel
theorem av200 : av .f64 4641240890982006784 = some 4641240890982006784 := by decide +kernel
theorem avm200 : av .f64 13864612927836782592 = some 13864612927836782592 := by decide +kernel
set_option maxRecDepth 100000 in
set_option maxHeartbeats 2000000 in
theorem l01ExpWide_any (x fw : Nat) (hs : Small x) (hw : Fv .f64 (widen (av .f32 x)) fw) (w : World) : Calls Try.prog 146 #[.float .f64 fw] w (NumL (expW x) w) := by
  have ho := small_ord hs
  have ha : ∃ d, av .f64 fw = some d := by obtain ⟨s, m, i, e, _⟩ := hs; rw [hw.2, av_num e]; exact ⟨_, rfl⟩
  obtain ⟨d, hd⟩ := ha
  have h0 := neq_self_num .f64 fw d hd
  have h1 : (FloatKind.f64.format.order fw 4641240890982006784 == some Ordering.gt) = false := by rw [aord_order .f64, hw.2, av200, ← wide200, aord_widen', ← aord_order, ho.1]; rfl
  have h2 : (FloatKind.f64.format.order fw 13864612927836782592 == some Ordering.lt) = false := by rw [aord_order .f64, hw.2, avm200, ← widem200, aord_widen', ← aord_order, ho.2]; rfl
  have HW := Lib.hid hw
  clear hs ho hd hw
  go_enter Try.func146, Try.ntmps146
  go_wp2_with (first | (refine wpList_farith (dst := some 17) _ _ _ _ _ .f64 _ _ rfl rfl rfl ?_; intro ft nt ht))
  have HT : Hid (Fv .f64 (expT x) ft) := Lib.hid (by unfold expT; rw [← HW.out.2, ← av64_256]; exact ht)
  clear ht h0 h1 h2
  go_loopw [4, 5] (fun p k wr => ∃ (j : Nat) (kk : Int), (j ≤ 12 ∧ kk = 12 - (j : Int)) ∧ k = .int .i64 kk ∧ ∃ r n', p = .float .f64 r ∧ Fv .f64 (expP (expT x) j) r ∧ wr = w.drewN n') (fun _ k _ => (intOf k).toNat)
  case atStart => exact ⟨0, 12, ⟨Nat.zero_le _, rfl⟩, rfl, _, _, rfl, ⟨by decide, av64_1⟩, rfl⟩
  case round =>
    obtain ⟨j, kk, ⟨hj, hkk⟩, rfl, r, n1, rfl, hr, rfl⟩ := hrel
    have HR := Lib.hid (And.intro hr hkk)
    by_cases hlt : j < 12
    · have hk1 : (1 : Int) ≤ kk := by omega
      have hk2 : kk ≤ 12 := by omega
      clear hr hkk
      go_wp2_with (first | (refine wpList_farith (dst := some 24) _ _ _ _ _ .f64 _ _ rfl rfl rfl ?_; intro f1 n2 h1) | (refine wpList_farith (dst := some 27) _ _ _ _ _ .f64 _ _ rfl rfl rfl ?_; intro f2 n3 h2) | (refine wpList_farith (dst := some 28) _ _ _ _ _ .f64 _ _ rfl rfl rfl ?_; intro f3 n4 h3))
      go_roundw
      case rel => exact ⟨j + 1, kk - 1, ⟨by omega, by have := HR.out.2; omega⟩, rfl, f3, _, rfl, exp_step HT.out HR.out.1 h1 (by rw [← HR.out.2]; exact h2) h3, by first | rfl | simp⟩
      case measure => simp [intOf]; omega
    · obtain rfl : j = 12 := by omega
      have hk1 : kk < 1 := by omega
      clear hr hkk hj hlt
      go_wp2_with fail
      go_loopw [4, 6] (fun p k wr => ∃ j : Nat, j ≤ 8 ∧ k = .int .i64 (j : Int) ∧ ∃ r n', p = .float .f64 r ∧ Fv .f64 (expS (expP (expT x) 12) j) r ∧ wr = w.drewN n') (fun _ k _ => 8 - (intOf k).toNat)
      case atStart => exact ⟨0, Nat.zero_le _, rfl, _, _, rfl, HR.out.1, rfl⟩
      case round =>
        obtain ⟨j, hj, rfl, r, n1, rfl, hr, rfl⟩ := hrel
        have HQ := Lib.hid hr
        clear hr
        by_cases hlt : j < 8
        · have hk1 : (j : Int) < 8 := by omega
          go_wp2_with (first | (refine wpList_farith (dst := some 35) _ _ _ _ _ .f64 _ _ rfl rfl rfl ?_; intro f1 n2 h1))
          go_roundw
          case rel => exact ⟨j + 1, by omega, by go_num, f1, _, rfl, sq_step HQ.out h1, by first | rfl | simp⟩
          case measure => simp [intOf]; omega
        · obtain rfl : j = 8 := by omega
          go_wp2_with fail
          go_ret
          exact ⟨r, _, rfl, HQ.out, rfl⟩
set_option maxRecDepth 100000 in
theorem l01Exp_any (x : Nat) (hs : Small x) (w : World) : Calls Try.prog 134 #[.float .f32 x] w (Num32 (narrow (expW x)) w) := by
  have HS := Lib.hid hs
  clear hs
  go_enter Try.func134, Try.ntmps134
  go_wp2_with (first | (go_at_call 146; fail) | (refine wpList_widen _ _ _ _ rfl Try.underlying23 Try.underlying28 ?_; intro r n hr))
  refine (l01ExpWide_any x r HS.out hr _).mono ?_
  rintro e w' ⟨r2, n2, rfl, hr2, rfl⟩
  have HR := Lib.hid hr2
  clear hr hr2
  go_wp2_with fail
  refine (l01Narrow_32 _ _ HR.out (.inr (.inl (expW_ok HS.out))) _).mono ?_
  rintro e w' ⟨r3, n3, rfl, hr3, rfl⟩
  go_wp2_with fail
  go_ret
  exact ⟨r3, _, rfl, hr3, rfl⟩
/-- What the exponential function of a small number is: a number. -/
theorem expW_num {x : Nat} (h : Small x) : ∃ L, narrow (expW x) = some L ∧ av .f32 L = some L := by
  obtain ⟨b, s, m, i, e1, e2, _, _⟩ := In.read (k := .f64) (R := R2 96) (expW_in h) (R2_lt 96 (by omega))
  rw [e1]
  refine ⟨_, rfl, av_some (k := .f32) ?_⟩
  refine read_write Ieee.single _ ?_
  have e2' : Ieee.double.read b = .number s m i := e2
  rw [e2']; rfl
end Go.Proofs.Ytlnhobikejbkkaa
