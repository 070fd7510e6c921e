/- Samples and ranks: both sides. -/
import Derived.Test.YtbjcomjokkhaeaaFn
import Derived.Test.YtbjcomjokkhaeaaIn0
import Derived.Deep.QuietTactic
import Derived.BigQuiet
namespace Go.Proofs.Ytbjcomjokkhaeaa
open Go Go.RowKit
set_option linter.unusedVariables false

/-- A sample: 1 to 40 integers from -1000 to 1000. -/
def isSam (xs : List Int) : Prop := (1 ≤ xs.length ∧ xs.length ≤ 40) ∧ ∀ i : Nat, i < xs.length → -1000 ≤ xs[i]?.getD 0 ∧ xs[i]?.getD 0 ≤ 1000
open Classical in
noncomputable def samB (xs : List Int) : Bool := decide (isSam xs)
theorem samB_yes {xs : List Int} (h : isSam xs) : samB xs = true := by unfold samB; simpa using h
theorem samB_no {xs : List Int} (h : ¬isSam xs) : samB xs = false := by unfold samB; simpa using h
theorem samB_len {xs : List Int} (h : ¬(1 ≤ xs.length ∧ xs.length ≤ 40)) : samB xs = false := samB_no (fun k => h k.1)
theorem samB_at {xs : List Int} {k : Nat} (hk : k < xs.length) (h : ¬(-1000 ≤ xs[k]?.getD 0 ∧ xs[k]?.getD 0 ≤ 1000)) : samB xs = false := samB_no (fun s => h (s.2 k hk))
set_option maxHeartbeats 1000000 in
theorem isSample_any (xs : List Int) (ao : Option Addr) (c : Nat) (w : World) (hx : Holds w ao (il xs)) (hl : xs.length ≤ 1048576) :
    Calls Try.prog 46 #[.slice ao xs.length c] w (fun e w' => e = .returned (.bool (samB xs)) ∧ w = w') := by
  have HX := Lib.hid hx
  clear hx
  by_cases hs : 1 ≤ xs.length ∧ xs.length ≤ 40
  · obtain ⟨hs1, hs2⟩ := hs
    go_enter Try.func46, Try.ntmps46
    go_wp2
    go_loop [7] (fun i => ∃ k : Nat, k ≤ xs.length ∧ i = .int .i64 k ∧ ∀ j : Nat, j < k → -1000 ≤ xs[j]?.getD 0 ∧ xs[j]?.getD 0 ≤ 1000) (fun i => xs.length - (intOf i).toNat)
    case atStart => exact ⟨0, Nat.zero_le _, rfl, fun j hj => absurd hj (Nat.not_lt_zero _)⟩
    case round =>
      obtain ⟨k, hk, rfl, hall⟩ := hrel
      have HA := Lib.hid hall
      clear hall
      by_cases hlt : k < xs.length
      · obtain ⟨b, o, rfl, hc⟩ := HX.out k (by simpa [il] using hlt)
        rw [il_get _ _ hlt] at hc
        have hlt' : (k : Int) < xs.length := by omega
        obtain ⟨x, hx⟩ : ∃ x, xs[k]?.getD 0 = x := ⟨_, rfl⟩
        rw [hx] at hc
        have HE := Lib.hid hx
        clear hx
        by_cases h1 : x < -1000
        · have HB : Hid (samB xs = false) := Lib.hid (samB_at hlt (by rw [HE.out]; omega))
          go_wp2
          go_ret
          exact ⟨by rw [HB.out]; first | rfl | (simp; omega), rfl⟩
        · by_cases h2 : 1000 < x
          · have HB : Hid (samB xs = false) := Lib.hid (samB_at hlt (by rw [HE.out]; omega))
            go_wp2
            go_ret
            exact ⟨by rw [HB.out]; first | rfl | (simp; omega), rfl⟩
          · go_wp2
            go_round
            case rel => exact ⟨k + 1, by omega, by go_num, fun j hj => by
              by_cases e : j = k
              · subst e; rw [HE.out]; omega
              · exact HA.out j (by omega)⟩
            case measure => simp [intOf]; omega
      · have HB : Hid (samB xs = true) := Lib.hid (samB_yes ⟨⟨hs1, hs2⟩, fun i hi => HA.out i (by omega)⟩)
        go_wp2
        go_ret
        exact ⟨by rw [HB.out]; first | rfl | (simp; omega), rfl⟩
  · have HB : Hid (samB xs = false) := Lib.hid (samB_len hs)
    have HS := Lib.hid hs
    clear hs
    go_enter Try.func46, Try.ntmps46
    go_wp2
    go_loop [7] (fun i => ∃ k : Nat, k ≤ xs.length ∧ i = .int .i64 k) (fun i => xs.length - (intOf i).toNat)
    case atStart => exact ⟨0, Nat.zero_le _, rfl⟩
    case round =>
      obtain ⟨k, hk, rfl⟩ := hrel
      by_cases hlt : k < xs.length
      · obtain ⟨b, o, rfl, hc⟩ := HX.out k (by simpa [il] using hlt)
        rw [il_get _ _ hlt] at hc
        have hlt' : (k : Int) < xs.length := by omega
        generalize xs[k]?.getD 0 = x at hc
        by_cases h1 : x < -1000
        · go_wp2
          go_ret
          exact ⟨by rw [HB.out]; first | rfl | (simp; omega), rfl⟩
        · by_cases h2 : 1000 < x
          · go_wp2
            go_ret
            exact ⟨by rw [HB.out]; first | rfl | (simp; omega), rfl⟩
          · go_wp2
            go_round
            case rel => exact ⟨k + 1, by omega, by go_num⟩
            case measure => simp [intOf]; omega
      · by_cases h1 : xs.length < 1
        · go_wp2
          go_ret
          exact ⟨by rw [HB.out]; first | rfl | (simp; omega), rfl⟩
        · have h2 : 40 < xs.length := by have := HS.out; omega
          go_wp2
          go_ret
          exact ⟨by rw [HB.out]; first | rfl | (simp; omega), rfl⟩
set_option maxHeartbeats 1000000 in
theorem l06Sample_any (xs : List Int) (ao : Option Addr) (c : Nat) (w : World) (hx : Holds w ao (il xs)) (hl : xs.length ≤ 1048576) :
    Calls Try.prog 45 #[.slice ao xs.length c] w (fun e w' => e = .returned (.bool (samB xs)) ∧ w = w') := by
  have HX := Lib.hid hx
  clear hx
  go_enter Try.func45, Try.ntmps45
  go_wp2
  go_loop [3] (fun i => ∃ k : Nat, k ≤ xs.length ∧ i = .int .i64 k ∧ ∀ j : Nat, j < k → -1000 ≤ xs[j]?.getD 0 ∧ xs[j]?.getD 0 ≤ 1000) (fun i => xs.length - (intOf i).toNat)
  case atStart => exact ⟨0, Nat.zero_le _, rfl, fun j hj => absurd hj (Nat.not_lt_zero _)⟩
  case round =>
    obtain ⟨k, hk, rfl, hall⟩ := hrel
    have HA := Lib.hid hall
    clear hall
    by_cases hlt : k < xs.length
    · obtain ⟨b, o, rfl, hc⟩ := HX.out k (by simpa [il] using hlt)
      rw [il_get _ _ hlt] at hc
      have hlt' : (k : Int) < xs.length := by omega
      obtain ⟨x, hx⟩ : ∃ x, xs[k]?.getD 0 = x := ⟨_, rfl⟩
      rw [hx] at hc
      have HE := Lib.hid hx
      clear hx
      by_cases h1 : -1000 ≤ x ∧ x ≤ 1000
      · have H1 := Lib.hid h1
        clear h1
        go_wp2_with fail
        refine (l00In_yes _ _ _ H1.out.1 H1.out.2 _).mono ?_
        rintro e w1 ⟨rfl, rfl⟩
        go_wp2_with fail
        go_round
        case rel => exact ⟨k + 1, by omega, by go_num, fun j hj => by
          by_cases e : j = k
          · subst e; rw [HE.out]; exact H1.out
          · exact HA.out j (by omega)⟩
        case measure => simp [intOf]; omega
      · have HB : Hid (samB xs = false) := Lib.hid (samB_at hlt (by rw [HE.out]; exact h1))
        have H1 : Hid (x < -1000 ∨ 1000 < x) := Lib.hid (by omega)
        clear h1
        go_wp2_with fail
        refine (l00In_no _ _ _ H1.out _).mono ?_
        rintro e w1 ⟨rfl, rfl⟩
        go_wp2_with fail
        go_ret
        exact ⟨by rw [HB.out]; first | rfl | (simp; omega), rfl⟩
    · by_cases h1 : xs.length < 1
      · have HB : Hid (samB xs = false) := Lib.hid (samB_len (by omega))
        go_wp2
        go_ret
        exact ⟨by rw [HB.out]; first | rfl | (simp; omega), rfl⟩
      · by_cases h2 : 40 < xs.length
        · have HB : Hid (samB xs = false) := Lib.hid (samB_len (by omega))
          go_wp2
          go_ret
          exact ⟨by rw [HB.out]; first | rfl | (simp; omega), rfl⟩
        · have HB : Hid (samB xs = true) := Lib.hid (samB_yes ⟨⟨by omega, by omega⟩, fun i hi => HA.out i (by omega)⟩)
          go_wp2
          go_ret
          exact ⟨by rw [HB.out]; first | rfl | (simp; omega), rfl⟩
/-- The rank of v, times 2, as far as the first k tell it. -/
def rkS (xs : List Int) (v : Int) : Nat → Nat
  | 0 => 1
  | k + 1 => rkS xs v k + if xs[k]?.getD 0 < v then 2 else if xs[k]?.getD 0 = v then 1 else 0
theorem rkS_le (xs : List Int) (v : Int) (k : Nat) : rkS xs v k ≤ 1 + 2 * k := by
  induction k with
  | zero => simp [rkS]
  | succ k ih => unfold rkS; split <;> (try split) <;> omega
theorem rkS_lt {xs : List Int} {v : Int} {k : Nat} (h : xs[k]?.getD 0 < v) : rkS xs v (k + 1) = rkS xs v k + 2 := by show _ + _ = _; rw [if_pos h]
theorem rkS_eq {xs : List Int} {v : Int} {k : Nat} (h : xs[k]?.getD 0 = v) : rkS xs v (k + 1) = rkS xs v k + 1 := by show _ + _ = _; rw [if_neg (by omega), if_pos h]
theorem rkS_gt {xs : List Int} {v : Int} {k : Nat} (h : v < xs[k]?.getD 0) : rkS xs v (k + 1) = rkS xs v k := by show _ + _ = _; rw [if_neg (by omega), if_neg (by omega)]; rfl
def rkA (xs : List Int) (i : Nat) : Nat := rkS xs (xs[i]?.getD 0) xs.length
def rkL (xs : List Int) : List Int := fnL xs.length (fun i => (rkA xs i : Int))
theorem rkL_len (xs : List Int) : (rkL xs).length = xs.length := fnL_len _ _
theorem rkL_abs (xs : List Int) (h : xs.length ≤ 40) : ∀ i : Nat, -((81 : Nat) : Int) ≤ (rkL xs)[i]?.getD 0 ∧ (rkL xs)[i]?.getD 0 ≤ ((81 : Nat) : Int) := fun i => by
  by_cases hi : i < xs.length
  · unfold rkL; rw [fnL_get _ _ _ hi]
    have := rkS_le xs (xs[i]?.getD 0) xs.length
    unfold rkA; omega
  · rw [List.getElem?_eq_none (by rw [rkL_len]; omega)]; simp
theorem fnL_next (n : Nat) (f : Nat → Int) : fnL (n + 1) f = fnL n f ++ [f n] := by simp [fnL, List.range_succ]
set_option maxRecDepth 100000 in
set_option maxHeartbeats 2000000 in
theorem ranksOf_cop (xs : List Int) (ao : Option Addr) (c : Nat) (w : World) (hx : Holds w ao (il xs)) (hl : xs.length ≤ 1048576) :
    Calls Try.prog 43 #[.slice ao xs.length c] w (Copied xs.length (il (rkL xs)) w) := by
  have HX := Lib.hid hx
  clear hx
  have hmk := run_mk16 (P := Try.prog) w 22 2 xs.length (by omega) Try.underlying22 (by kernel_rfl)
  have HN := Lib.hid (FRow.new w xs.length 2)
  go_enter Try.func43, Try.ntmps43
  go_wp2
  clear hmk
  go_loopw [13] (fun i wr => ∃ q : Nat, q ≤ xs.length ∧ i = .int .i64 (q : Int) ∧ Below w.heap.size w wr ∧ FRow wr w.heap.size 2 xs.length (fun t => if t < q then (rkA xs t : Int) else 0)) (fun i _ => xs.length - (intOf i).toNat)
  case atStart => exact ⟨0, Nat.zero_le _, rfl, (by repeat (first | with_reducible exact Below.refl _ _ | with_reducible exact HBL | with_reducible refine Below.drew ?_ | with_reducible refine Bel_drewN ?_ _ | with_reducible refine Below.alloc ?_ (by first | omega | (simp; done) | (simp; omega)) _ | with_reducible refine Below.setCell ?_ (by first | omega | (simp; done) | (simp; omega)) _)), HN.out.to (fun i hi => by simp)⟩
  case round =>
    obtain ⟨q, hq, rfl, hbel, hrow⟩ := hrel
    have H := Lib.hid (And.intro hbel hrow)
    by_cases hlt : q < xs.length
    · obtain ⟨b, o, rfl, hc⟩ := (Holds.below HX.out hbel) q (by simpa [il] using hlt)
      rw [il_get _ _ hlt] at hc
      have hlt' : (q : Int) < xs.length := by omega
      have hck := hrow.cell q hlt
      have hfk := hrow.frozen q
      have hz := hrow.lt
      rw [if_neg (by omega)] at hck
      obtain ⟨v, hv⟩ : ∃ v, xs[q]?.getD 0 = v := ⟨_, rfl⟩
      rw [hv] at hc
      have HV := Lib.hid hv
      clear hv hbel hrow
      go_wp2
      clear hck hfk
      go_loopw [23] (fun i wr => ∃ k : Nat, k ≤ xs.length ∧ i = .int .i64 k ∧ Below w.heap.size w wr ∧ FRow wr w.heap.size 2 xs.length (fun t => if t = q then (rkS xs v k : Int) else if t < q then (rkA xs t : Int) else 0)) (fun i _ => xs.length - (intOf i).toNat)
      case atStart =>
        obtain ⟨HBL, hrow⟩ := H.out
        exact ⟨0, Nat.zero_le _, rfl, (by repeat (first | with_reducible exact Below.refl _ _ | with_reducible exact HBL | with_reducible refine Below.drew ?_ | with_reducible refine Bel_drewN ?_ _ | with_reducible refine Below.alloc ?_ (by first | omega | (simp; done) | (simp; omega)) _ | with_reducible refine Below.setCell ?_ (by first | omega | (simp; done) | (simp; omega)) _)), hrow.put q 1⟩
      case round =>
        clear hc hz
        obtain ⟨k, hk, rfl, hbel, hrow⟩ := hrel
        have H1 := Lib.hid (And.intro hbel hrow)
        by_cases hlk : k < xs.length
        · have hlk' : (k : Int) < xs.length := by omega
          obtain ⟨b', o', hbo, hck⟩ := (Holds.below HX.out hbel) k (by simpa [il] using hlk)
          cases hbo
          rw [il_get _ _ hlk] at hck
          have hcq := hrow.cell q hlt
          have hfq := hrow.frozen q
          have hz := hrow.lt
          rw [if_pos rfl] at hcq
          obtain ⟨x, hx⟩ : ∃ x, xs[k]?.getD 0 = x := ⟨_, rfl⟩
          have hr := rkS_le xs v k
          obtain ⟨r, hre⟩ : ∃ r, rkS xs v k = r := ⟨_, rfl⟩
          rw [hx] at hck
          rw [hre] at hcq hr
          have HE := Lib.hid (And.intro hx hre)
          clear hx hre hbel hrow
          have hput : ∀ (s : Int) (t : Nat), (if t = q then s else if t = q then (rkS xs v k : Int) else if t < q then (rkA xs t : Int) else 0) = if t = q then s else if t < q then (rkA xs t : Int) else 0 := fun s t => by
            by_cases e : t = q
            · rw [if_pos e, if_pos e]
            · rw [if_neg e, if_neg e, if_neg e]
          have HP := Lib.hid hput
          clear hput
          by_cases h1 : x < v
          · have HR := Lib.hid (rkS_lt (xs := xs) (v := v) (k := k) (by rw [HE.out.1]; exact h1))
            go_wp2
            go_roundw
            case rel =>
              obtain ⟨HBL, hrow⟩ := H1.out
              refine ⟨k + 1, by omega, by go_num, (by repeat (first | with_reducible exact Below.refl _ _ | with_reducible exact HBL | with_reducible refine Below.drew ?_ | with_reducible refine Bel_drewN ?_ _ | with_reducible refine Below.alloc ?_ (by first | omega | (simp; done) | (simp; omega)) _ | with_reducible refine Below.setCell ?_ (by first | omega | (simp; done) | (simp; omega)) _)), (hrow.put q _).to (fun t ht => ?_)⟩
              rw [HP.out, HR.out, HE.out.2]; rfl
            case measure => simp [intOf]; omega
          · by_cases h2 : x = v
            · have HR := Lib.hid (rkS_eq (xs := xs) (v := v) (k := k) (by rw [HE.out.1]; exact h2))
              subst h2
              go_wp2
              go_roundw
              case rel =>
                obtain ⟨HBL, hrow⟩ := H1.out
                refine ⟨k + 1, by omega, by go_num, (by repeat (first | with_reducible exact Below.refl _ _ | with_reducible exact HBL | with_reducible refine Below.drew ?_ | with_reducible refine Bel_drewN ?_ _ | with_reducible refine Below.alloc ?_ (by first | omega | (simp; done) | (simp; omega)) _ | with_reducible refine Below.setCell ?_ (by first | omega | (simp; done) | (simp; omega)) _)), (hrow.put q _).to (fun t ht => ?_)⟩
                rw [HP.out, HR.out, HE.out.2]; rfl
              case measure => simp [intOf]; omega
            · have HR := Lib.hid (rkS_gt (xs := xs) (v := v) (k := k) (by rw [HE.out.1]; omega))
              have h3 : (x == v) = false := by simpa using h2
              clear h2
              go_wp2
              go_roundw
              case rel => exact ⟨k + 1, by omega, by go_num, H1.out.1, by rw [HR.out]; exact H1.out.2⟩
              case measure => simp [intOf]; omega
        · have e : k = xs.length := by omega
          clear hbel hrow
          go_wp2
          go_roundw
          case rel => exact ⟨q + 1, by omega, by go_num, H1.out.1, H1.out.2.to (fun t ht => by
            by_cases e1 : t = q
            · subst e1; rw [if_pos rfl, if_pos (by omega), e]; unfold rkA; rw [HV.out]
            · rw [if_neg e1]
              by_cases e2 : t < q
              · rw [if_pos e2, if_pos (by omega)]
              · rw [if_neg e2, if_neg (by omega)])⟩
          case measure => simp [intOf]; omega
    · clear hbel hrow
      go_wp2
      go_ret
      exact ⟨_, rfl, by
        have := H.out.2.to (f' := fun i => (rkA xs i : Int)) (fun i hi => by rw [if_pos (by omega)])
        exact this.row (Nat.le_refl _) this.lt, H.out.1⟩
theorem ranksOf_any (xs : List Int) (ao : Option Addr) (c : Nat) (w : World) (hx : Holds w ao (il xs)) (hl : xs.length ≤ 1048576) :
    Calls Try.prog 43 #[.slice ao xs.length c] w (RetL xs.length (il (rkL xs)) (fun s => s) w) :=
  (ranksOf_cop xs ao c w hx hl).mono fun e w' ⟨a, h1, h2, h3⟩ => ⟨a, _, h1, h2, h3⟩
set_option maxRecDepth 100000 in
set_option maxHeartbeats 2000000 in
theorem l06Ranks_any (xs : List Int) (ao : Option Addr) (c : Nat) (w : World) (hx : Holds w ao (il xs)) (hl : xs.length ≤ 1048576) :
    Calls Try.prog 38 #[.slice ao xs.length c] w (RetL xs.length (il (rkL xs)) (fun s => s) w) := by
  have HX := Lib.hid hx
  clear hx
  go_enter Try.func38, Try.ntmps38
  go_wp2_with fail
  go_loopw [3, 4] (fun v i wr => ∃ j : Nat, j ≤ xs.length ∧ i = .int .i64 j ∧ wr.ownsRow w.heap.size 2 1 v j (il (fnL j (fun i => (rkA xs i : Int)))) ∧ Below w.heap.size w wr) (fun _ i _ => xs.length - (intOf i).toNat)
  case atStart => exact ⟨0, Nat.zero_le _, rfl, World.ownsRow_made _ _ _ (Nat.le_refl _) (Nat.zero_le _) rfl, (by repeat (first | with_reducible exact Below.refl _ _ | with_reducible exact HBL | with_reducible refine Below.drew ?_ | with_reducible refine Bel_drewN ?_ _ | with_reducible refine Below.alloc ?_ (by first | omega | (simp; done) | (simp; omega)) _ | with_reducible refine Below.setCell ?_ (by first | omega | (simp; done) | (simp; omega)) _))⟩
  case round =>
    obtain ⟨q, hq, rfl, hown, hbel⟩ := hrel
    have H := Lib.hid (And.intro hown hbel)
    have hzr : w.heap.size ≤ wr.heap.size := hbel.size
    by_cases hlt : q < xs.length
    · obtain ⟨b, o, rfl, hc⟩ := (Holds.below HX.out hbel) q (by simpa [il] using hlt)
      rw [il_get _ _ hlt] at hc
      have hlt' : (q : Int) < xs.length := by omega
      obtain ⟨v, hv⟩ : ∃ v, xs[q]?.getD 0 = v := ⟨_, rfl⟩
      rw [hv] at hc
      have HV := Lib.hid hv
      have HBLR := Lib.hid hbel
      clear hv hown hbel
      go_wp2_with fail
      go_loopw [5, 6] (fun s i w2 => ∃ k : Nat, k ≤ xs.length ∧ i = .int .i64 k ∧ s = .int .i64 (rkS xs v k : Int) ∧ ∃ n, w2 = wr.drewN n) (fun _ i _ => xs.length - (intOf i).toNat)
      case atStart => exact ⟨0, Nat.zero_le _, rfl, rfl, 0, rfl⟩
      case round =>
        obtain ⟨k, hk, rfl, rfl, n, rfl⟩ := hrel
        by_cases hlk : k < xs.length
        · have hlk' : (k : Int) < xs.length := by omega
          obtain ⟨b', o', hbo, hck⟩ := (Holds.below HX.out HBLR.out) k (by simpa [il] using hlk)
          cases hbo
          rw [il_get _ _ hlk] at hck
          obtain ⟨x, hx⟩ : ∃ x, xs[k]?.getD 0 = x := ⟨_, rfl⟩
          have hr := rkS_le xs v k
          obtain ⟨r, hre⟩ : ∃ r, rkS xs v k = r := ⟨_, rfl⟩
          rw [hx] at hck
          rw [hre] at hr
          have HE := Lib.hid (And.intro hx hre)
          clear hx
          by_cases h1 : x < v
          · have HR := Lib.hid (rkS_lt (xs := xs) (v := v) (k := k) (by rw [HE.out.1]; exact h1))
            have h3 : (x == v) = false := by simp; omega
            rw [hre]
            clear hre
            go_wp2_with fail
            go_quiet (fail)
            go_wp2_with fail
            go_quiet (fail)
            go_wp2_with fail
            go_roundw
            case rel => exact ⟨k + 1, by omega, by go_num, by rw [HR.out, HE.out.2]; rfl, _, rfl⟩
            case measure => simp [intOf]; omega
          · by_cases h2 : x = v
            · have HR := Lib.hid (rkS_eq (xs := xs) (v := v) (k := k) (by rw [HE.out.1]; exact h2))
              rw [hre]
              subst h2
              clear hre
              go_wp2_with fail
              go_quiet (fail)
              go_wp2_with fail
              go_quiet (fail)
              go_wp2_with fail
              go_roundw
              case rel => exact ⟨k + 1, by omega, by go_num, by rw [HR.out, HE.out.2]; rfl, _, rfl⟩
              case measure => simp [intOf]; omega
            · have HR := Lib.hid (rkS_gt (xs := xs) (v := v) (k := k) (by rw [HE.out.1]; omega))
              have h3 : (x == v) = false := by simpa using h2
              rw [hre]
              clear h2 hre
              go_wp2_with fail
              go_quiet (fail)
              go_wp2_with fail
              go_quiet (fail)
              go_wp2_with fail
              go_roundw
              case rel => exact ⟨k + 1, by omega, by go_num, by rw [HR.out, HE.out.2], _, rfl⟩
              case measure => simp [intOf]; omega
        · have e : k = xs.length := by omega
          have HR : Hid (rkS xs v k = rkA xs q) := Lib.hid (by rw [e]; unfold rkA; rw [HV.out])
          obtain ⟨r, hr⟩ : ∃ r, rkS xs v k = r := ⟨_, rfl⟩
          have HRR := Lib.hid hr
          rw [hr]
          have H2 := Lib.hid (show (wr.drewN n).ownsRow w.heap.size 2 1 _ q _ from H.out.1)
          clear hr e
          go_wp2_with (at_builtin; refine wpList_app1 rfl _ _ 22 rfl w.heap.size 2 (.int .i64 0) 8 Try.underlying22 (by kernel_rfl) rfl _ q _ rfl (H2.out.alloc _) _ _ (.int .i64 (r : Int)) rfl ?_ rfl ⟨by omega, by omega⟩ ?_ ?_)
          · exact (Whole.made (wr.drewN n) 2 #[.int .i64 (r : Int)]).cell 0
          · simp; omega
          · intro v' w' hown' hgr'
            have hbel' : Below w.heap.size w w' := by
              have h1 : Below w.heap.size w ((wr.drewN n).alloc (.cells #[.int .i64 (r : Int)] 2)) := by have HBL := HBLR.out; exact (by repeat (first | with_reducible exact Below.refl _ _ | with_reducible exact HBL | with_reducible refine Below.drew ?_ | with_reducible refine Bel_drewN ?_ _ | with_reducible refine Below.alloc ?_ (by first | omega | (simp; done) | (simp; omega)) _ | with_reducible refine Below.setCell ?_ (by first | omega | (simp; done) | (simp; omega)) _))
              exact h1.grown hgr' (by simp; omega) (fun k hk => by have := own_ge H.out.1 k hk; exact this)
            have ho3 : w'.ownsRow w.heap.size 2 1 v' (q + 1) (il (fnL (q + 1) (fun i => (rkA xs i : Int)))) := by rw [fnL_next, il, List.map_append, ← HR.out, HRR.out]; exact hown'
            have H3 := Lib.hid (And.intro ho3 hbel')
            clear hown' hgr' hbel' ho3
            go_wp2_with fail
            go_roundw
            case rel => exact ⟨q + 1, by omega, by go_num, H3.out⟩
            case measure => simp [intOf]; omega
    · obtain rfl : q = xs.length := by omega
      obtain ⟨ao2, c2, rfl⟩ := own_form hown
      have H3 := Lib.hid (And.intro (Row.of_own hown) hbel)
      clear hown hbel H
      go_wp2_with fail
      go_ret
      exact ⟨_, _, rfl, H3.out⟩
end Go.Proofs.Ytbjcomjokkhaeaa
