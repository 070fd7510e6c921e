/- PlainMany: both sides; lists of shares. -/
import Derived.Test.YtekoahhdbafpmaaKw
import Derived.Test.YtekoahhdbafpmaaFq
import Derived.Test.YtekoahhdbafpmaaTl
namespace Go.Proofs.Ytekoahhdbafpmaa
open Go Go.RowKit Fl
set_option linter.unusedVariables false

/-- A list of shares. -/
def isMany (xs : List Nat) : Prop := (1 ≤ xs.length ∧ xs.length ≤ 64) ∧ ∀ i : Nat, i < xs.length → partB (xs[i]?.getD 0) = true
open Classical in
noncomputable def manyB (xs : List Nat) : Bool := decide (isMany xs)
theorem manyB_yes {xs : List Nat} (h : isMany xs) : manyB xs = true := by unfold manyB; simpa using h
theorem manyB_no {xs : List Nat} (h : ¬isMany xs) : manyB xs = false := by unfold manyB; simpa using h
open Classical in
noncomputable def partsB (xs : List Nat) : Bool := decide (∀ i : Nat, i < xs.length → partB (xs[i]?.getD 0) = true)
theorem partsB_yes {xs : List Nat} (h : ∀ i : Nat, i < xs.length → partB (xs[i]?.getD 0) = true) : partsB xs = true := by unfold partsB; simpa using h
theorem partsB_at {xs : List Nat} {k : Nat} (hk : k < xs.length) (h : partB (xs[k]?.getD 0) = false) : partsB xs = false := by
  unfold partsB
  rw [decide_eq_false]
  intro hh
  rw [hh k hk] at h
  cases h
theorem manyB_eq {xs : List Nat} (h : 1 ≤ xs.length ∧ xs.length ≤ 64) : manyB xs = partsB xs := by
  unfold manyB partsB isMany
  rw [Bool.eq_iff_iff]
  simp [h]
theorem manyB_len {xs : List Nat} (h : ¬(1 ≤ xs.length ∧ xs.length ≤ 64)) : manyB xs = false := manyB_no (fun k => h k.1)
theorem areWithinOne_any (xs : List Nat) (ao : Option Addr) (c : Nat) (w : World) (hx : Holds w ao (fl .f32 xs)) (hl : xs.length ≤ 1048576) :
    Calls Try.prog 55 #[.slice ao xs.length c] w (fun e w' => e = .returned (.bool (partsB xs)) ∧ w = w') := by
  have HX := Lib.hid hx
  clear hx
  go_enter Try.func55, Try.ntmps55
  go_wp2_with fail
  go_loop [7] (fun i => ∃ k : Nat, k ≤ xs.length ∧ i = .int .i64 k ∧ ∀ j : Nat, j < k → partB (xs[j]?.getD 0) = true) (fun i => xs.length - (intOf i).toNat)
  case atStart => exact ⟨0, Nat.zero_le _, rfl, fun j hj => absurd hj (Nat.not_lt_zero _)⟩
  case round =>
    obtain ⟨k, hk, rfl, hall⟩ := hrel
    have HA := Lib.hid hall
    clear hall
    by_cases hlt : k < xs.length
    · obtain ⟨b, o, rfl, hc⟩ := HX.out k (by simpa [fl] using hlt)
      rw [fl_get _ _ _ hlt] at hc
      have hlt' : (k : Int) < xs.length := by omega
      obtain ⟨x, hx⟩ : ∃ x, xs[k]?.getD 0 = x := ⟨_, rfl⟩
      rw [hx] at hc
      have HE := Lib.hid hx
      clear hx
      go_wp2_with fail
      refine (isWithin_any x 0 1065353216 _).mono ?_
      rintro e w1 ⟨rfl, rfl⟩
      rw [show (geB x 0 && leB x 1065353216) = partB x from rfl]
      cases hp : partB x with
      | true =>
        have HP := Lib.hid hp
        clear hp
        go_wp2_with fail
        go_round
        case rel => exact ⟨k + 1, by omega, by go_num, fun j hj => by
          by_cases e : j = k
          · subst e; rw [HE.out]; exact HP.out
          · exact HA.out j (by omega)⟩
        case measure => simp [intOf]; omega
      | false =>
        have HB : Hid (partsB xs = false) := Lib.hid (partsB_at hlt (by rw [HE.out]; exact hp))
        clear hp
        go_wp2_with fail
        go_ret
        exact ⟨by rw [HB.out]; rfl, rfl⟩
    · have HB : Hid (partsB xs = true) := Lib.hid (partsB_yes (fun i hi => HA.out i (by omega)))
      go_wp2_with fail
      go_ret
      exact ⟨by rw [HB.out]; rfl, rfl⟩
theorem areManyShares_any (xs : List Nat) (ao : Option Addr) (c : Nat) (w : World) (hx : Holds w ao (fl .f32 xs)) (hl : xs.length ≤ 1048576) :
    Calls Try.prog 28 #[.slice ao xs.length c] w (fun e w' => e = .returned (.bool (manyB xs)) ∧ w = w') := by
  have HX := Lib.hid hx
  clear hx
  by_cases h1 : 1 ≤ xs.length
  · by_cases h2 : xs.length ≤ 64
    · have HB := Lib.hid (manyB_eq (xs := xs) ⟨h1, h2⟩)
      go_enter Try.func28, Try.ntmps28
      go_wp2_with fail
      refine (areWithinOne_any xs _ _ _ HX.out hl).mono ?_
      rintro e w1 ⟨rfl, rfl⟩
      rw [← HB.out]
      go_wp2_with fail
      go_ret
      exact ⟨by first | rfl | (simp; omega), rfl⟩
    · have HB := Lib.hid (manyB_len (xs := xs) (by omega))
      go_enter Try.func28, Try.ntmps28
      go_wp2_with fail
      go_ret
      exact ⟨by rw [HB.out]; first | rfl | (simp; omega), rfl⟩
  · have HB := Lib.hid (manyB_len (xs := xs) (by omega))
    go_enter Try.func28, Try.ntmps28
    go_wp2_with fail
    go_ret
    exact ⟨by rw [HB.out]; first | rfl | (simp; omega), rfl⟩
theorem l06Shares_any (xs : List Nat) (ao : Option Addr) (c : Nat) (w : World) (hx : Holds w ao (fl .f32 xs)) (hl : xs.length ≤ 1048576) :
    Calls Try.prog 62 #[.slice ao xs.length c] w (fun e w' => e = .returned (.bool (manyB xs)) ∧ w = w') := by
  have HX := Lib.hid hx
  clear hx
  go_enter Try.func62, Try.ntmps62
  go_wp2_with fail
  go_loop [3] (fun i => ∃ k : Nat, k ≤ xs.length ∧ i = .int .i64 k ∧ ∀ j : Nat, j < k → partB (xs[j]?.getD 0) = true) (fun i => xs.length - (intOf i).toNat)
  case atStart => exact ⟨0, Nat.zero_le _, rfl, fun j hj => absurd hj (Nat.not_lt_zero _)⟩
  case round =>
    obtain ⟨k, hk, rfl, hall⟩ := hrel
    have HA := Lib.hid hall
    clear hall
    by_cases hlt : k < xs.length
    · obtain ⟨b, o, rfl, hc⟩ := HX.out k (by simpa [fl] using hlt)
      rw [fl_get _ _ _ hlt] at hc
      have hlt' : (k : Int) < xs.length := by omega
      obtain ⟨x, hx⟩ : ∃ x, xs[k]?.getD 0 = x := ⟨_, rfl⟩
      rw [hx] at hc
      have HE := Lib.hid hx
      clear hx
      go_wp2_with fail
      refine (l02Part_any x _).mono ?_
      rintro e w1 ⟨rfl, rfl⟩
      cases hp : partB x with
      | true =>
        have HP := Lib.hid hp
        clear hp
        go_wp2_with fail
        go_round
        case rel => exact ⟨k + 1, by omega, by go_num, fun j hj => by
          by_cases e : j = k
          · subst e; rw [HE.out]; exact HP.out
          · exact HA.out j (by omega)⟩
        case measure => simp [intOf]; omega
      | false =>
        have HB : Hid (manyB xs = false) := Lib.hid (manyB_no (fun h => by have := h.2 k hlt; rw [HE.out, hp] at this; cases this))
        clear hp
        go_wp2_with fail
        go_ret
        exact ⟨by rw [HB.out]; rfl, rfl⟩
    · by_cases h1 : 1 ≤ xs.length
      · by_cases h2 : xs.length ≤ 64
        · have HB : Hid (manyB xs = true) := Lib.hid (manyB_yes ⟨⟨h1, h2⟩, fun i hi => HA.out i (by omega)⟩)
          go_wp2_with fail
          go_ret
          exact ⟨by rw [HB.out]; first | rfl | (simp; omega), rfl⟩
        · have HB := Lib.hid (manyB_len (xs := xs) (by omega))
          go_wp2_with fail
          go_ret
          exact ⟨by rw [HB.out]; first | rfl | (simp; omega), rfl⟩
      · have HB := Lib.hid (manyB_len (xs := xs) (by omega))
        go_wp2_with fail
        go_ret
        exact ⟨by rw [HB.out]; first | rfl | (simp; omega), rfl⟩
theorem read_mod (x : Nat) : Ieee.single.read x = Ieee.single.read (x % 4294967296) := by
  have hsw : Ieee.single.signWeight = 2147483648 := by decide
  unfold Ieee.Format.read
  simp only [hsw]
  rw [show x % 4294967296 % 2147483648 = x % 2147483648 by omega, show x % 4294967296 / 2147483648 % 2 = x / 2147483648 % 2 by omega]
theorem part_in {x : Nat} (h : partB x = true) : In .f32 1065353216 (av .f32 x) := by
  have h' : partB (x % 4294967296) = true := by
    have e : ∀ y, FloatKind.f32.format.order (x % 4294967296) y = FloatKind.f32.format.order x y := fun y => by
      show (Ieee.single.read (x % 4294967296)).order _ = (Ieee.single.read x).order _
      rw [← read_mod]
    unfold partB geB leB at h ⊢
    rw [e, e]; exact h
  obtain ⟨s, r, e, hr, _⟩ := part_word (Nat.mod_lt _ (by omega)) h'
  have hs : av .f32 x = some x := by
    have h2 : geB x 0 = true := by unfold partB at h; simp only [Bool.and_eq_true] at h; exact h.1
    unfold geB at h2
    cases ho : FloatKind.f32.format.order x 0 with
    | none => rw [ho] at h2; cases h2
    | some o => exact order_some ho
  refine ⟨x, hs, ?_⟩
  have hsw : FloatKind.f32.format.signWeight = 2147483648 := by decide
  have hsw2 : Ieee.single.signWeight = 2147483648 := by decide
  unfold Ieee.Format.word at e
  rw [hsw2] at e
  rw [hsw]
  have hm : x % 2147483648 = x % 4294967296 % 2147483648 := by omega
  rw [hm, e]
  cases s
  · simp; omega
  · simp; omega
theorem small_in : ∀ n : Nat, n < 65 → av .f32 (floatOfInt .f32 (n : Int)) = some (floatOfInt .f32 (n : Int)) ∧ floatOfInt .f32 (n : Int) % 2147483648 ≤ 1115684864 := by decide +kernel
theorem int_in {n : Nat} (h : n ≤ 64) : In .f32 1115684864 (av .f32 (floatOfInt .f32 (n : Int))) := by
  obtain ⟨h1, h2⟩ := small_in n (by omega)
  exact ⟨_, h1, by have hsw : FloatKind.f32.format.signWeight = 2147483648 := by decide
                   rw [hsw]; exact h2⟩
theorem vr_mul64 : vr FloatKind.f32.format 1065353216 * vr FloatKind.f32.format 1115684864 ≤ vr FloatKind.f32.format 1115684864 * 2 ^ K0 := by decide +kernel
/-- A share times how many there are. -/
def mulB (x n : Nat) : Nat := (aop .mul .f32 (av .f32 x) (av .f32 (floatOfInt .f32 (n : Int)))).getD 0
theorem in_fin {R b : Nat} (hR : R < 2139095040) (hb : b % 2147483648 ≤ R) : finA .f32 (some b) = true := by
  have hsw : Ieee.single.signWeight = 2147483648 := by decide
  have hi : Ieee.single.infRung = 2139095040 := by decide
  show (!(Ieee.single.read b).isInfinity) = true
  unfold Ieee.Format.read
  simp only [hsw, hi]
  split
  · rfl
  · rw [if_pos (by omega)]; rfl
theorem mulB_ok {x n : Nat} (h : partB x = true) (hn : n ≤ 64) : aop .mul .f32 (av .f32 x) (av .f32 (floatOfInt .f32 (n : Int))) = some (mulB x n) ∧ mulB x n < 4294967296 ∧ finA .f32 (av .f32 (mulB x n)) = true ∧ mulB x n % 2147483648 ≤ 1115684864 := by
  have hi := In.mul (k := .f32) (X := 1065353216) (Y := 1115684864) (R := 1115684864) (part_in h) (int_in hn) (by decide) (by decide) (by decide) vr_mul64
  obtain ⟨b, hb, hr⟩ := hi
  have hsw : FloatKind.f32.format.signWeight = 2147483648 := by decide
  rw [hsw] at hr
  have e : mulB x n = b := by unfold mulB; rw [hb]; rfl
  have hbop := hb
  rw [aop_bop] at hbop
  have hlt : b < 4294967296 := bop_lt hbop
  have hnn := bop_notNaN hbop
  rw [e]
  exact ⟨hb, hlt, by rw [av_some hnn]; exact in_fin (by omega) hr, hr⟩
def plL (xs : List Nat) : List Nat := (List.range xs.length).map fun i => min1 (mulB (xs[i]?.getD 0) xs.length)
theorem plL_len (xs : List Nat) : (plL xs).length = xs.length := by simp [plL]
theorem rangeF_next (n : Nat) (f : Nat → Nat) : fl .f32 ((List.range (n + 1)).map f) = fl .f32 ((List.range n).map f) ++ [.float .f32 (f n)] := by simp [fl, List.range_succ]
theorem Fv_some {k : FloatKind} {m d : Nat} (h : Fv k (some m) d) : d = m := by
  have h2 := h.2
  unfold av at h2
  split at h2
  · cases h2
  · injection h2
theorem run_mkFm {P : Program} (w : World) (t e : TypeId) (n : Nat) (ht : P.underlying t = some (.slice e)) (hi : (P.info? e).map (fun i => (i.zero, i.size, i.bytes)) = some (some (.float .f32 0), 1, 4)) (hn : n ≤ 1048577) :
    (Instr.makeSlice t (.int .i64 0) (.int .i64 (n : Int))).run P w = .ok (.slice (some ⟨w.heap.size, 0, none⟩) 0 n) (w.alloc (.cells (Array.replicate n (.float .f32 0)) e)) := by
  obtain ⟨i, hi, h1, h2, h3⟩ := info_parts hi
  have hb' : (i.bytes : Int) * (n : Int) ≤ 281474976710656 := by rw [h3]; omega
  rw [run_make w t e i (.float .f32 0) ht hi h1 .i64 .i64 0 n (by omega) (by omega) hb' (by omega)]
  have : madeCells (Value.float .f32 0).cells ((n : Int).toNat * i.size) = Array.replicate n (.float .f32 0) := by
    rw [show (Value.float FloatKind.f32 0).cells = #[.float .f32 0] from rfl, h2, Int.toNat_natCast, Nat.mul_one]
    unfold madeCells
    apply Array.ext
    · simp
    · intro j h1 h2
      simp [Nat.mod_one]
  rw [this]; simp
end Go.Proofs.Ytekoahhdbafpmaa
