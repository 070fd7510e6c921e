/- How far counts are from shares: ChiOf. -/
import Derived.Test.YtlipdegiihojfaaPk
import Derived.Test.YtlipdegiihojfaaIl
namespace Go.Proofs.Ytlipdegiihojfaa
open Go Go.RowKit Fl Vag
set_option linter.unusedVariables false

/-! ### Plain facts -/
def cntS (cs : List Int) : Nat → Int
  | 0 => 0
  | k + 1 => cntS cs k + cs[k]?.getD 0
def okCnt (cs : List Int) : Prop := cs.length ≤ 256 ∧ ∀ i, i < cs.length → 0 ≤ cs[i]?.getD 0 ∧ cs[i]?.getD 0 ≤ 1000000
theorem cntS_in {cs : List Int} : ∀ k, k ≤ cs.length → (∀ i, i < k → 0 ≤ cs[i]?.getD 0 ∧ cs[i]?.getD 0 ≤ 1000000) → 0 ≤ cntS cs k ∧ cntS cs k ≤ 1000000 * (k : Int)
  | 0, _, _ => ⟨Int.le_refl _, by simp [cntS]⟩
  | k + 1, hk, h => by
    have ih := cntS_in (cs := cs) k (by omega) (fun i hi => h i (by omega))
    have h1 := h k (by omega)
    have e : cntS cs (k + 1) = cntS cs k + cs[k]?.getD 0 := rfl
    rw [e]
    constructor <;> omega
def chiE (x N : Nat) : Option Nat := aop .mul .f32 (av .f32 x) (av .f32 N)
def chiQ (C x N : Nat) : Option Nat := aop .quo .f32 (aop .mul .f32 (aop .sub .f32 (av .f32 C) (chiE x N)) (aop .sub .f32 (av .f32 C) (chiE x N))) (chiE x N)
def chiV (cs : List Int) (xs : List Nat) (N : Nat) : Nat → Option Nat
  | 0 => some 0
  | k + 1 => aop .add .f32 (chiV cs xs N k) (chiQ (floatOfInt .f32 (cs[k]?.getD 0)) (xs[k]?.getD 0) N)
def chiC (cs : List Int) (xs : List Nat) : Prop := okCnt cs ∧ 0 < cntS cs cs.length ∧ xs.length = cs.length ∧ (∀ i, i < cs.length → aboveB (xs[i]?.getD 0) = true) ∧ finA .f32 (chiV cs xs (floatOfInt .f32 (cntS cs cs.length)) cs.length) = true

/-- A sum that is finite is one of finite numbers. -/
theorem add_fin2 {u v : Option Nat} (h : finA .f32 (aop .add .f32 u v) = true) : finA .f32 u = true ∧ finA .f32 v = true := by
  cases u with
  | none => cases h
  | some x =>
    cases v with
    | none => cases h
    | some y =>
      have key : ∀ r, Ieee.single.add x y = some r → (Ieee.single.read r).isInfinity = false → (Ieee.single.read x).isInfinity = false ∧ (Ieee.single.read y).isInfinity = false := by
        intro r hr hi
        unfold Ieee.Format.add at hr
        have hinf : ∀ s, (Ieee.single.read (Ieee.single.write (.infinity s))).isInfinity = true := inf_fin (k := .f32)
        cases hx : Ieee.single.read x with
        | nan _ _ => rw [hx] at hr; simp [Ieee.Datum.sum] at hr
        | infinity s =>
          rw [hx] at hr
          cases hy : Ieee.single.read y with
          | nan _ _ => rw [hy] at hr; simp [Ieee.Datum.sum] at hr
          | infinity t =>
            rw [hy] at hr
            simp only [Ieee.Datum.sum] at hr
            split at hr
            · cases hr; rw [hinf] at hi; cases hi
            · cases hr
          | number t n j => rw [hy] at hr; simp only [Ieee.Datum.sum, Option.map_some] at hr; cases hr; rw [hinf] at hi; cases hi
        | number s m i =>
          rw [hx] at hr
          refine ⟨rfl, ?_⟩
          cases hy : Ieee.single.read y with
          | nan _ _ => rfl
          | infinity t => rw [hy] at hr; simp only [Ieee.Datum.sum, Option.map_some] at hr; cases hr; rw [hinf] at hi; cases hi
          | number t n j => rfl
      cases hr : Ieee.single.add x y with
      | none =>
        have : aop .add .f32 (some x) (some y) = none := hr
        rw [this] at h; cases h
      | some r =>
        have e : aop .add .f32 (some x) (some y) = some r := hr
        rw [e] at h
        have hi : (Ieee.single.read r).isInfinity = false := by
          have : (!(Ieee.single.read r).isInfinity) = true := h
          simpa using this
        obtain ⟨h1, h2⟩ := key r hr hi
        exact ⟨by show (!(Ieee.single.read x).isInfinity) = true; rw [h1]; rfl, by show (!(Ieee.single.read y).isInfinity) = true; rw [h2]; rfl⟩
theorem finA_read {b : Nat} (h : (Ieee.single.read b).isInfinity = true) : finA .f32 (some b) = false := by
  show (!(Ieee.single.read b).isInfinity) = false
  rw [h]; rfl
/-- A quotient by an infinity of the square of what lies that far is no number. -/
theorem chiQ_fin {C x N : Nat} (hC : ∃ s m i, Ieee.single.read C = .number s m i) (h : finA .f32 (chiQ C x N) = true) : finA .f32 (chiE x N) = true := by
  unfold chiQ at h
  generalize hE : chiE x N = E at *
  cases E with
  | none =>
    have : aop .sub .f32 (av .f32 C) none = none := by cases av .f32 C <;> rfl
    rw [this] at h; cases h
  | some e =>
    cases hi : (Ieee.single.read e).isInfinity with
    | false => show (!(Ieee.single.read e).isInfinity) = true; rw [hi]; rfl
    | true =>
      exfalso
      obtain ⟨s, m, i, hc⟩ := hC
      obtain ⟨t, ht⟩ : ∃ t, Ieee.single.read e = .infinity t := by
        cases hd : Ieee.single.read e with
        | infinity t => exact ⟨t, rfl⟩
        | number _ _ _ => rw [hd] at hi; cases hi
        | nan _ _ => rw [hd] at hi; cases hi
      have hav : av .f32 C = some C := av_num hc
      have hz : aop .sub .f32 (av .f32 C) (some e) = some (Ieee.single.write (.infinity (!t))) := by
        rw [hav]
        show ((Ieee.single.read C).sum (Ieee.single.read e).opposite).map Ieee.single.write = _
        rw [hc, ht]; rfl
      have hri : ∀ s, Ieee.single.read (Ieee.single.write (.infinity s)) = .infinity s := by intro s; cases s <;> decide +kernel
      have hm : aop .mul .f32 (some (Ieee.single.write (.infinity (!t)))) (some (Ieee.single.write (.infinity (!t)))) = some (Ieee.single.write (.infinity false)) := by
        show ((Ieee.single.read (Ieee.single.write (.infinity (!t)))).product (Ieee.single.read (Ieee.single.write (.infinity (!t))))).map Ieee.single.write = _
        rw [hri]
        cases t <;> rfl
      have hq : aop .quo .f32 (some (Ieee.single.write (.infinity false))) (some e) = none := by
        show ((Ieee.single.read (Ieee.single.write (.infinity false))).quotient _ (Ieee.single.read e)).map Ieee.single.write = none
        rw [hri, ht]; rfl
      rw [hz, hm, hq] at h
      cases h
theorem ofInt_num (n : Int) (h : n.natAbs ≤ 16777216000) : ∃ s m i, Ieee.single.read (floatOfInt .f32 n) = .number s m i := by
  have e : floatOfInt .f32 n = Ieee.single.write (.number (decide (n < 0)) n.natAbs 0) := rfl
  rw [e]
  have hn := read_write Ieee.single (.number (decide (n < 0)) n.natAbs 0) rfl
  have hI : In .f32 1358954496 (some (Ieee.single.write (.number (decide (n < 0)) n.natAbs 0))) := by
    refine write_in (k := .f32) (by omega) (by decide) ?_
    have hv : vr Ieee.single 1358954496 = 34359738368 * 2 ^ K0 := by decide +kernel
    show val _ _ ≤ vr Ieee.single _
    rw [hv]
    unfold val
    have e1 : ((0 : Int) + (K0 : Int)).toNat = K0 := by omega
    rw [e1]
    exact Nat.mul_le_mul_right _ (by omega)
  obtain ⟨b, s, m, i, e1, e2, _, _⟩ := In.read hI (by decide)
  cases e1
  exact ⟨s, m, i, e2⟩
theorem chi_prev {cs : List Int} {xs : List Nat} {N k : Nat} (h : finA .f32 (chiV cs xs N (k + 1)) = true) : finA .f32 (chiV cs xs N k) = true ∧ finA .f32 (chiQ (floatOfInt .f32 (cs[k]?.getD 0)) (xs[k]?.getD 0) N) = true := add_fin2 h
theorem chi_all {cs : List Int} {xs : List Nat} {N : Nat} : ∀ n k, k ≤ n → finA .f32 (chiV cs xs N n) = true → finA .f32 (chiV cs xs N k) = true
  | 0, k, hk, h => by obtain rfl : k = 0 := by omega
                      exact h
  | n + 1, k, hk, h => by
    by_cases e : k = n + 1
    · subst e; exact h
    · exact chi_all n k (by omega) (chi_prev h).1
def CntP (cs : List Int) (w : World) (e : Ending) (w' : World) : Prop := ((okCnt cs ∧ 0 < cntS cs cs.length) ∧ e = .returned (.tuple #[.int .i64 (cntS cs cs.length), .bool true]) ∨ ¬(okCnt cs ∧ 0 < cntS cs cs.length) ∧ ∃ n : Int, e = .returned (.tuple #[.int .i64 n, .bool false])) ∧ w = w'
set_option maxRecDepth 100000 in
set_option maxHeartbeats 1000000 in
theorem sumOfCounts_any (cs : List Int) (ao : Option Addr) (c : Nat) (w : World) (hx : Holds w ao (il cs)) (hlen : cs.length ≤ 1048576) :
    Calls Try.prog 91 #[.slice ao cs.length c] w (CntP cs w) := by
  have HX := Lib.hid hx
  clear hx
  by_cases h256 : cs.length ≤ 256
  · have hl' : (cs.length : Int) ≤ 256 := by omega
    go_enter Try.func91, Try.ntmps91
    go_wp2
    go_loopw [4, 12] (fun s i wr => ∃ k : Nat, k ≤ cs.length ∧ i = .int .i64 k ∧ s = .int .i64 (cntS cs k) ∧ (∀ i, i < k → 0 ≤ cs[i]?.getD 0 ∧ cs[i]?.getD 0 ≤ 1000000) ∧ wr = w) (fun _ i _ => cs.length - (intOf i).toNat)
    case atStart => exact ⟨0, Nat.zero_le _, rfl, rfl, fun i hi => absurd hi (Nat.not_lt_zero _), rfl⟩
    case round =>
      obtain ⟨k, hk, rfl, rfl, hall, rfl⟩ := hrel
      have HA := Lib.hid hall
      obtain ⟨hs1, hs2⟩ := cntS_in (cs := cs) k hk hall
      clear hall
      by_cases hlt : k < cs.length
      · obtain ⟨b, o, rfl, hc⟩ := HX.out k (by simpa [il] using hlt)
        rw [il_get _ _ hlt] at hc
        have HE : Hid (cntS cs (k + 1) = cntS cs k + cs[k]?.getD 0) := Lib.hid rfl
        obtain ⟨x, hx⟩ : ∃ x, x = cs[k]?.getD 0 := ⟨_, rfl⟩
        rw [← hx] at hc HE
        have HXE := Lib.hid hx
        clear hx
        generalize cntS cs k = S at *
        have hs3 : S ≤ 256000000 := by omega
        by_cases h0 : x < 0
        · go_wp2
          go_ret2
          exact ⟨.inr ⟨fun h => by have := (h.1.2 k hlt).1; rw [← HXE.out] at this; omega, _, rfl⟩, rfl⟩
        · have h0' : 0 ≤ x := by omega
          by_cases h1 : 1000000 < x
          · go_wp2
            go_ret2
            exact ⟨.inr ⟨fun h => by have := (h.1.2 k hlt).2; rw [← HXE.out] at this; omega, _, rfl⟩, rfl⟩
          · have h1' : x ≤ 1000000 := by omega
            go_wp2
            go_roundw
            case rel =>
              refine ⟨k + 1, by omega, by go_num, by rw [HE.out], fun i hi => ?_, trivial⟩
              by_cases e : i = k
              · subst e; rw [← HXE.out]; exact ⟨h0', h1'⟩
              · exact HA.out i (by omega)
            case measure => simp [intOf]; omega
      · obtain rfl : k = cs.length := by omega
        generalize hS : cntS cs cs.length = S at *
        have HS := Lib.hid hS
        clear hS
        by_cases hp : 0 < S
        · go_wp2
          go_ret2
          exact ⟨.inl ⟨⟨⟨h256, HA.out⟩, by rw [HS.out]; exact hp⟩, by rw [HS.out]; rfl⟩, rfl⟩
        · have hp' : decide (0 < S) = false := by simpa using hp
          go_wp2
          go_ret2
          exact ⟨.inr ⟨fun h => by have := h.2; rw [HS.out] at this; omega, _, rfl⟩, rfl⟩
  · have hl' : (256 : Int) < cs.length := by omega
    go_enter Try.func91, Try.ntmps91
    go_wp2
    go_ret2
    exact ⟨.inr ⟨fun h => h256 h.1.1, _, rfl⟩, rfl⟩
/-- It returns the number, or that there is none. -/
def ChiP (cs : List Int) (xs : List Nat) (w : World) (e : Ending) (w' : World) : Prop :=
  (chiC cs xs ∧ RetF (fun r => .tuple #[.float .f32 r, .bool true]) (chiV cs xs (floatOfInt .f32 (cntS cs cs.length)) cs.length) w e w') ∨ (¬chiC cs xs ∧ RetB (.tuple #[.float .f32 0, .bool false]) w e w')
theorem ChiP.not {cs : List Int} {xs : List Nat} {w : World} {n : Nat} (h : ¬chiC cs xs) : ChiP cs xs w (.returned (.tuple #[.float .f32 0, .bool false])) (w.drewN n) := .inr ⟨h, rfl, Bel_drewN (Below.refl _ _) n⟩
theorem ChiP.yes {cs : List Int} {xs : List Nat} {w : World} {n r : Nat} (h : chiC cs xs) (hr : Fv .f32 (chiV cs xs (floatOfInt .f32 (cntS cs cs.length)) cs.length) r) : ChiP cs xs w (.returned (.tuple #[.float .f32 r, .bool true])) (w.drewN n) := .inl ⟨h, r, rfl, hr, Bel_drewN (Below.refl _ _) n⟩
theorem above_tests {x : Nat} (hf : finA .f32 (av .f32 x) = true) : (FloatKind.f32.format.order x 0 == some Ordering.lt || FloatKind.f32.format.order x 0 == some Ordering.eq) = !aboveB x := by
  have h1 : (FloatKind.f32.format.order x 0 == some Ordering.lt || FloatKind.f32.format.order x 0 == some Ordering.eq) = leB x 0 := rfl
  rw [h1, le_gt hf]
  unfold aboveB
  rw [hf, Bool.true_and]
theorem above_fin {x : Nat} (h : aboveB x = true) : finA .f32 (av .f32 x) = true := by unfold aboveB at h; rw [Bool.and_eq_true] at h; exact h.1
theorem chi_step {cs : List Int} {xs : List Nat} {k C x N r e z q t s : Nat} (hr : Fv .f32 (chiV cs xs N k) r) (hC : floatOfInt .f32 (cs[k]?.getD 0) = C) (hx : xs[k]?.getD 0 = x)
    (he : Fv .f32 (aop .mul .f32 (av .f32 x) (av .f32 N)) e) (hz : Fv .f32 (aop .sub .f32 (av .f32 C) (av .f32 e)) z) (hq : Fv .f32 (aop .mul .f32 (av .f32 z) (av .f32 z)) q) (ht : Fv .f32 (aop .quo .f32 (av .f32 q) (av .f32 e)) t)
    (hs : Fv .f32 (aop .add .f32 (av .f32 r) (av .f32 t)) s) : Fv .f32 (chiV cs xs N (k + 1)) s ∧ Fv .f32 (chiE x N) e := by
  have he' : Fv .f32 (chiE x N) e := he
  refine ⟨?_, he'⟩
  have h1 : chiV cs xs N (k + 1) = aop .add .f32 (chiV cs xs N k) (chiQ C x N) := by rw [← hC, ← hx]; rfl
  have h2 : chiQ C x N = av .f32 t := by
    unfold chiQ
    rw [← he'.2, ← hz.2, ← hq.2, ← ht.2]
  rw [h1, h2, ← hr.2]
  exact hs
set_option maxRecDepth 100000 in
set_option maxHeartbeats 2000000 in
theorem implChi_any (cs : List Int) (xs : List Nat) (ao bo : Option Addr) (c d : Nat) (w : World) (hx : Holds w ao (il cs)) (hy : Holds w bo (fl .f32 xs)) (hlen : cs.length ≤ 1048576) (hxl : xs.length ≤ 1048576) :
    Calls Try.prog 49 #[.slice ao cs.length c, .slice bo xs.length d] w (ChiP cs xs w) := by
  have HX := Lib.hid (And.intro hx hy)
  clear hx hy
  go_enter Try.func49, Try.ntmps49
  go_wp2_with (first | (go_at_call 91; fail))
  refine (sumOfCounts_any cs _ _ _ HX.out.1 hlen).mono ?_
  rintro e w' ⟨⟨hok, rfl⟩ | ⟨hno, n, rfl⟩, rfl⟩
  · by_cases hl : xs.length = cs.length
    · have hne : ((xs.length : Int) != (cs.length : Int)) = false := by simp; omega
      have hl256 : cs.length ≤ 256 := hok.1.1
      have HO := Lib.hid (And.intro hok hl)
      have hcb := (cntS_in (cs := cs) cs.length (Nat.le_refl _) hok.1.2)
      clear hok
      go_wp2_with fail
      have HNN : Hid (floatOfInt .f32 (cntS cs cs.length) = floatOfInt .f32 (cntS cs cs.length)) := Lib.hid rfl
      generalize hN : floatOfInt .f32 (cntS cs cs.length) = N at HNN
      have HNE := Lib.hid hN
      clear hN HNN
      generalize hSE : cntS cs cs.length = S at *
      have HSE := Lib.hid hSE
      clear hSE hl hne
      go_loopw [8, 29] (fun s i wr => ∃ k : Nat, k ≤ cs.length ∧ i = .int .i64 k ∧ (∀ i, i < k → aboveB (xs[i]?.getD 0) = true) ∧ ∃ r n, s = .float .f32 r ∧ Fv .f32 (chiV cs xs N k) r ∧ wr = w.drewN n) (fun _ i _ => cs.length - (intOf i).toNat)
      case atStart => exact ⟨0, Nat.zero_le _, rfl, fun i hi => absurd hi (Nat.not_lt_zero _), 0, 0, rfl, Fv_zero _, rfl⟩
      case round =>
        obtain ⟨k, hk, rfl, hall, r, n, rfl, hr, rfl⟩ := hrel
        have HA := Lib.hid (And.intro hall hr)
        clear hall hr
        by_cases hlt : k < cs.length
        · have hltx : k < xs.length := by have := HO.out.2; omega
          obtain ⟨b, o, rfl, hc⟩ := HX.out.1 k (by simpa [il] using hlt)
          obtain ⟨b', o', rfl, hc'⟩ := HX.out.2 k (by simpa [fl] using hltx)
          rw [il_get _ _ hlt] at hc
          rw [fl_get _ _ _ hltx] at hc'
          obtain ⟨x, hx⟩ : ∃ x, x = xs[k]?.getD 0 := ⟨_, rfl⟩
          rw [← hx] at hc'
          obtain ⟨y, hy⟩ : ∃ y, y = cs[k]?.getD 0 := ⟨_, rfl⟩
          rw [← hy] at hc
          have HE := Lib.hid (And.intro hx hy)
          clear hx hy
          cases hab : aboveB x with
          | false =>
            have HAB := Lib.hid hab
            have HNC : Hid (¬chiC cs xs) := Lib.hid (fun h => by have := h.2.2.2.1 k hlt; rw [← HE.out.1, HAB.out] at this; cases this)
            clear hab
            cases hf : finA .f32 (av .f32 x) with
            | false =>
              have HF := Lib.hid hf
              clear hf
              go_wp2_with (first | (go_at_call 70; fail))
              refine (IsFinite_any _ _).mono ?_
              rintro e w' ⟨n2, rfl, rfl⟩
              rw [HF.out]
              go_wp2_with fail
              go_ret2
              exact ChiP.not HNC.out
            | true =>
              have HF := Lib.hid hf
              have ht := above_tests hf
              rw [HAB.out] at ht
              have ht' : (FloatKind.f32.format.order x 0 == some Ordering.lt || FloatKind.f32.format.order x 0 == some Ordering.eq) = true := ht
              clear hf ht
              go_wp2_with (first | (go_at_call 70; fail))
              refine (IsFinite_any _ _).mono ?_
              rintro e w' ⟨n2, rfl, rfl⟩
              rw [HF.out]
              go_wp2_with fail
              go_ret2
              exact ChiP.not HNC.out
          | true =>
            have HAB := Lib.hid hab
            have HF := Lib.hid (above_fin hab)
            have ht := above_tests HF.out
            rw [hab] at ht
            have ht' : (FloatKind.f32.format.order x 0 == some Ordering.lt || FloatKind.f32.format.order x 0 == some Ordering.eq) = false := ht
            clear hab ht
            go_wp2_with (first | (go_at_call 70; fail))
            refine (IsFinite_any _ _).mono ?_
            rintro e w' ⟨n2, rfl, rfl⟩
            rw [HF.out]
            go_wp2_with (first | (refine wpList_farith (dst := some 53) _ _ _ _ _ .f32 _ _ rfl rfl rfl ?_; intro fe n3 he) | (refine wpList_farith (dst := some 57) _ _ _ _ _ .f32 _ _ rfl rfl rfl ?_; intro fz n4 hz) | (refine wpList_farith (dst := some 61) _ _ _ _ _ .f32 _ _ rfl rfl rfl ?_; intro fq n5 hq) | (refine wpList_farith (dst := some 63) _ _ _ _ _ .f32 _ _ rfl rfl rfl ?_; intro ft n6 ht) | (refine wpList_farith (dst := some 64) _ _ _ _ _ .f32 _ _ rfl rfl rfl ?_; intro fs n7 hs))
            go_roundw
            case rel =>
              refine ⟨k + 1, by omega, by go_num, fun i hi => ?_, fs, n + n2 + n3 + n4 + n5 + n6 + n7, rfl, (chi_step HA.out.2 (by rw [← HE.out.2]) (by rw [← HE.out.1]) (by rw [← HNE.out]; exact he) hz hq ht hs).1, by simp [Nat.add_assoc]⟩
              by_cases e : i = k
              · subst e; rw [← HE.out.1]; exact HAB.out
              · exact HA.out.1 i (by omega)
            case measure => simp [intOf]; omega
        · obtain rfl : k = cs.length := by omega
          go_wp2_with (first | (go_at_call 70; fail))
          refine (IsFinite_any _ _).mono ?_
          rintro e w' ⟨n2, rfl, rfl⟩
          rw [HA.out.2.2]
          cases hf : finA .f32 (chiV cs xs N cs.length) with
          | true =>
            have HF := Lib.hid hf
            clear hf
            go_wp2_with fail
            go_ret2
            exact ChiP.yes ⟨HO.out.1.1, by rw [HSE.out]; exact HO.out.1.2, HO.out.2, HA.out.1, by rw [HSE.out, HNE.out]; exact HF.out⟩ (by rw [HSE.out, HNE.out]; exact HA.out.2)
          | false =>
            have HF := Lib.hid hf
            clear hf
            go_wp2_with fail
            go_ret2
            exact ChiP.not (fun h => by have := h.2.2.2.2; rw [HSE.out, HNE.out, HF.out] at this; cases this)
    · have hne : ((xs.length : Int) != (cs.length : Int)) = true := by simp; omega
      have HNC : Hid (¬chiC cs xs) := Lib.hid (fun h => hl h.2.2.1)
      clear hok hl
      go_wp2_with fail
      go_ret2
      exact ChiP.not (n := 0) HNC.out
  · have HNC : Hid (¬chiC cs xs) := Lib.hid (fun h => hno ⟨h.1, h.2.1⟩)
    clear hno
    go_wp2_with fail
    go_ret2
    exact ChiP.not (n := 0) HNC.out
set_option maxRecDepth 100000 in
set_option maxHeartbeats 4000000 in
theorem specChi_any (cs : List Int) (xs : List Nat) (ao bo : Option Addr) (c d : Nat) (w : World) (hx : Holds w ao (il cs)) (hy : Holds w bo (fl .f32 xs)) (hlen : cs.length ≤ 1048576) (hxl : xs.length ≤ 1048576) :
    Calls Try.prog 47 #[.slice ao cs.length c, .slice bo xs.length d] w (ChiP cs xs w) := by
  have HX := Lib.hid (And.intro hx hy)
  clear hx hy
  by_cases h1 : cs.length < 1
  · have h1' : (cs.length : Int) < 1 := by omega
    have HNC : Hid (¬chiC cs xs) := Lib.hid (fun h => by have h2 := h.2.1; have e : cs.length = 0 := by omega
                                                         rw [e] at h2; exact absurd h2 (by simp [cntS]))
    go_enter Try.func47, Try.ntmps47
    go_wp2
    go_ret2
    exact ChiP.not (n := 0) HNC.out
  · have h1' : (1 : Int) ≤ cs.length := by omega
    by_cases h2 : 256 < cs.length
    · have h2' : (256 : Int) < cs.length := by omega
      have HNC : Hid (¬chiC cs xs) := Lib.hid (fun h => by have := h.1.1; omega)
      go_enter Try.func47, Try.ntmps47
      go_wp2
      go_ret2
      exact ChiP.not (n := 0) HNC.out
    · have h2' : (cs.length : Int) ≤ 256 := by omega
      by_cases hl : xs.length = cs.length
      · have hne : ((xs.length : Int) != (cs.length : Int)) = false := by simp; omega
        have HL := Lib.hid hl
        clear hl
        go_enter Try.func47, Try.ntmps47
        go_wp2
        clear hne
        go_loopw [6, 7] (fun s i wr => ∃ k : Nat, k ≤ cs.length ∧ i = .int .i64 k ∧ s = .int .i64 (cntS cs k) ∧ (∀ i, i < k → (0 ≤ cs[i]?.getD 0 ∧ cs[i]?.getD 0 ≤ 1000000) ∧ aboveB (xs[i]?.getD 0) = true) ∧ ∃ n, wr = w.drewN n) (fun _ i _ => cs.length - (intOf i).toNat)
        case atStart => exact ⟨0, Nat.zero_le _, rfl, rfl, fun i hi => absurd hi (Nat.not_lt_zero _), 0, rfl⟩
        case round =>
          obtain ⟨k, hk, rfl, rfl, hall, n, rfl⟩ := hrel
          have HA := Lib.hid hall
          obtain ⟨hs1, hs2⟩ := cntS_in (cs := cs) k hk (fun i hi => (hall i hi).1)
          clear hall
          by_cases hlt : k < cs.length
          · have hltx : k < xs.length := by have := HL.out; omega
            obtain ⟨b, o, rfl, hc⟩ := HX.out.1 k (by simpa [il] using hlt)
            obtain ⟨b', o', rfl, hc'⟩ := HX.out.2 k (by simpa [fl] using hltx)
            rw [il_get _ _ hlt] at hc
            rw [fl_get _ _ _ hltx] at hc'
            have HCE : Hid (cntS cs (k + 1) = cntS cs k + cs[k]?.getD 0) := Lib.hid rfl
            obtain ⟨x, hx⟩ : ∃ x, x = xs[k]?.getD 0 := ⟨_, rfl⟩
            rw [← hx] at hc'
            obtain ⟨y, hy⟩ : ∃ y, y = cs[k]?.getD 0 := ⟨_, rfl⟩
            rw [← hy] at hc HCE
            have HE := Lib.hid (And.intro hx hy)
            clear hx hy
            generalize cntS cs k = S at *
            have hs3 : S ≤ 256000000 := by omega
            by_cases hyr : 0 ≤ y ∧ y ≤ 1000000
            · have HY := Lib.hid hyr
              have hy1 := hyr.1
              have hy2 := hyr.2
              clear hyr
              cases hab : aboveB x with
              | true =>
                have HAB := Lib.hid hab
                clear hab
                go_wp2_with (first | (go_at_call 84; refine (l00In_yes _ _ _ HY.out.1 HY.out.2 _).mono ?_; rintro e w' ⟨rfl, rfl⟩) | (go_at_call 89; refine (l02Above_any _ _).mono ?_; rintro e w' ⟨n2, rfl, rfl⟩; rw [HAB.out]))
                go_roundw
                case rel =>
                  refine ⟨k + 1, by omega, by go_num, by rw [HCE.out], fun i hi => ?_, _, by first | rfl | simp⟩
                  by_cases e : i = k
                  · subst e; rw [← HE.out.1, ← HE.out.2]; exact ⟨HY.out, HAB.out⟩
                  · exact HA.out i (by omega)
                case measure => simp [intOf]; omega
              | false =>
                have HAB := Lib.hid hab
                have HNC : Hid (¬chiC cs xs) := Lib.hid (fun h => by have := h.2.2.2.1 k hlt; rw [← HE.out.1, HAB.out] at this; cases this)
                clear hab
                go_wp2_with (first | (go_at_call 84; refine (l00In_yes _ _ _ HY.out.1 HY.out.2 _).mono ?_; rintro e w' ⟨rfl, rfl⟩) | (go_at_call 89; refine (l02Above_any _ _).mono ?_; rintro e w' ⟨n2, rfl, rfl⟩; rw [HAB.out]))
                go_ret2
                exact ChiP.not HNC.out
            · have HY : Hid (y < 0 ∨ 1000000 < y) := Lib.hid (by omega)
              have HNC : Hid (¬chiC cs xs) := Lib.hid (fun h => by have := h.1.2 k hlt; rw [← HE.out.2] at this; exact hyr this)
              clear hyr
              go_wp2_with (first | (go_at_call 84; refine (l00In_no _ _ _ HY.out _).mono ?_; rintro e w' ⟨rfl, rfl⟩))
              go_ret2
              exact ChiP.not HNC.out
          · obtain rfl : k = cs.length := by omega
            generalize hSE : cntS cs cs.length = S at *
            have HSE := Lib.hid hSE
            clear hSE
            have hs3 : S ≤ 256000000 := by omega
            by_cases h0 : S = 0
            · have HNC : Hid (¬chiC cs xs) := Lib.hid (fun h => by have := h.2.1; rw [HSE.out] at this; omega)
              subst h0
              go_wp2
              go_ret2
              exact ChiP.not HNC.out
            · have h0' : (S == 0) = false := by simpa using h0
              have HO : Hid (okCnt cs ∧ 0 < S) := Lib.hid ⟨⟨by omega, fun i hi => (HA.out i hi).1⟩, by omega⟩
              have HCN := Lib.hid (fun (i : Nat) (hi : i < cs.length) => ofInt_num (cs[i]?.getD 0) (by have := (HA.out i hi).1; omega))
              clear h0
              go_wp2_with fail
              clear h0'
              have HNE : Hid (floatOfInt .f32 (cntS cs cs.length) = floatOfInt .f32 S) := Lib.hid (by rw [HSE.out])
              generalize floatOfInt .f32 S = N at *
              go_loopw [9, 10] (fun s i wr => ∃ k : Nat, k ≤ cs.length ∧ i = .int .i64 k ∧ finA .f32 (chiV cs xs N k) = true ∧ ∃ r n', s = .float .f32 r ∧ Fv .f32 (chiV cs xs N k) r ∧ wr = (w.drewN n).drewN n') (fun _ i _ => cs.length - (intOf i).toNat)
              case atStart => exact ⟨0, Nat.zero_le _, rfl, rfl, 0, 0, rfl, Fv_zero _, rfl⟩
              case round =>
                obtain ⟨k, hk, rfl, hfk, r, n1, rfl, hr, rfl⟩ := hrel
                have HR := Lib.hid (And.intro hfk hr)
                clear hfk hr
                by_cases hlt : k < cs.length
                · have hltx : k < xs.length := by have := HL.out; omega
                  obtain ⟨b, o, rfl, hc⟩ := HX.out.1 k (by simpa [il] using hlt)
                  obtain ⟨b', o', rfl, hc'⟩ := HX.out.2 k (by simpa [fl] using hltx)
                  rw [il_get _ _ hlt] at hc
                  rw [fl_get _ _ _ hltx] at hc'
                  have HC1 := Lib.hid (HCN.out k hlt)
                  obtain ⟨x, hx⟩ : ∃ x, x = xs[k]?.getD 0 := ⟨_, rfl⟩
                  rw [← hx] at hc'
                  obtain ⟨y, hy⟩ : ∃ y, y = cs[k]?.getD 0 := ⟨_, rfl⟩
                  rw [← hy] at hc HC1
                  have HE := Lib.hid (And.intro hx hy)
                  clear hx hy
                  go_wp2_with (first | (go_at_call 90; fail) | (refine wpList_farith (dst := some 69) _ _ _ _ _ .f32 _ _ rfl rfl rfl ?_; intro fe n3 he) | (refine wpList_farith (dst := some 76) _ _ _ _ _ .f32 _ _ rfl rfl rfl ?_; intro fz n4 hz) | (refine wpList_farith (dst := some 80) _ _ _ _ _ .f32 _ _ rfl rfl rfl ?_; intro fq n5 hq) | (refine wpList_farith (dst := some 82) _ _ _ _ _ .f32 _ _ rfl rfl rfl ?_; intro ft n6 ht) | (refine wpList_farith (dst := some 83) _ _ _ _ _ .f32 _ _ rfl rfl rfl ?_; intro fs n7 hs))
                  have HST := Lib.hid (chi_step HR.out.2 (by rw [← HE.out.2]) (by rw [← HE.out.1]) he hz hq ht hs)
                  clear he hz hq ht hs
                  refine (l01Finite_any _ _).mono ?_
                  rintro e w' ⟨n8, rfl, rfl⟩
                  rw [HST.out.2.2]
                  cases hfe : finA .f32 (chiE x N) with
                  | false =>
                    have HNC : Hid (¬chiC cs xs) := Lib.hid (fun h => by
                      have h5 := h.2.2.2.2
                      rw [HNE.out] at h5
                      have h6 := (chi_prev (chi_all cs.length (k + 1) (by omega) h5)).2
                      rw [← HE.out.1, ← HE.out.2] at h6
                      have h7 := chiQ_fin HC1.out h6
                      rw [hfe] at h7; cases h7)
                    clear hfe
                    go_wp2_with fail
                    go_ret2
                    exact ChiP.not HNC.out
                  | true =>
                    clear hfe
                    go_wp2_with (first | (go_at_call 90; fail))
                    refine (l01Finite_any _ _).mono ?_
                    rintro e w' ⟨n9, rfl, rfl⟩
                    rw [HST.out.1.2]
                    cases hfs : finA .f32 (chiV cs xs N (k + 1)) with
                    | false =>
                      have HNC : Hid (¬chiC cs xs) := Lib.hid (fun h => by
                        have h5 := h.2.2.2.2
                        rw [HNE.out] at h5
                        have h6 := chi_all cs.length (k + 1) (by omega) h5
                        rw [hfs] at h6; cases h6)
                      clear hfs
                      go_wp2_with fail
                      go_ret2
                      exact ChiP.not HNC.out
                    | true =>
                      have HFS := Lib.hid hfs
                      clear hfs
                      go_wp2_with fail
                      go_roundw
                      case rel => exact ⟨k + 1, by omega, by go_num, HFS.out, fs, n1 + n3 + n4 + n5 + n6 + n7 + n8 + n9, rfl, HST.out.1, by simp [World.drewN_drewN, Nat.add_assoc]⟩
                      case measure => simp [intOf]; omega
                · obtain rfl : k = cs.length := by omega
                  go_wp2
                  go_ret2
                  exact ChiP.yes ⟨HO.out.1, by rw [HSE.out]; exact HO.out.2, HL.out, fun i hi => (HA.out i hi).2, by rw [HNE.out]; exact HR.out.1⟩ (by rw [HNE.out]; exact HR.out.2)
      · have hne : ((xs.length : Int) != (cs.length : Int)) = true := by simp; omega
        have HNC : Hid (¬chiC cs xs) := Lib.hid (fun h => hl h.2.2.1)
        clear hl
        go_enter Try.func47, Try.ntmps47
        go_wp2
        go_ret2
        exact ChiP.not (n := 0) HNC.out
theorem ChiP.out1 {cs : List Int} {xs : List Nat} {w w' : World} {e : Ending} (h : chiC cs xs) (hp : ChiP cs xs w e w') : RetF (fun r => .tuple #[.float .f32 r, .bool true]) (chiV cs xs (floatOfInt .f32 (cntS cs cs.length)) cs.length) w e w' := by
  rcases hp with ⟨_, h1⟩ | ⟨h1, _⟩
  · exact h1
  · exact absurd h h1
theorem ChiP.out0 {cs : List Int} {xs : List Nat} {w w' : World} {e : Ending} (h : ¬chiC cs xs) (hp : ChiP cs xs w e w') : RetF (fun r => .tuple #[.float .f32 r, .bool false]) (av .f32 0) w e w' := by
  rcases hp with ⟨h1, _⟩ | ⟨_, he, hb⟩
  · exact absurd h1 h
  · exact ⟨0, he, ⟨by decide, rfl⟩, hb⟩
end Go.Proofs.Ytlipdegiihojfaa
