/- Aliases that are valid. -/
import Derived.Test.YtlipdegiihojfaaHt
import Derived.Test.YtlipdegiihojfaaFq
import Derived.Test.YtlipdegiihojfaaPc
namespace Go.Proofs.Ytlipdegiihojfaa
open Go Go.RowKit Fl Vag
set_option linter.unusedVariables false

def okAt (n x : Nat) (y : Int) : Prop := partB x = true ∧ 0 ≤ y ∧ y < n
def isAli (xs : List Nat) (ys : List Int) : Prop := (1 ≤ xs.length ∧ xs.length ≤ 64) ∧ ys.length = xs.length ∧ ∀ i, i < xs.length → okAt xs.length (xs[i]?.getD 0) (ys[i]?.getD 0)
/-- It returns whether it is an alias. -/
def AliP (xs : List Nat) (ys : List Int) (w : World) (e : Ending) (w' : World) : Prop := ∃ b, e = .returned (.bool b) ∧ (b = true ↔ isAli xs ys) ∧ Below w.heap.size w w'
def AliS (xs : List Nat) (ys : List Int) (w : World) (e : Ending) (w' : World) : Prop := ∃ b, e = .returned (.bool b) ∧ (b = true ↔ isAli xs ys) ∧ w = w'
theorem AliP.yes {xs : List Nat} {ys : List Int} (h : isAli xs ys) {w w' : World} {e : Ending} (hp : AliP xs ys w e w') : RetB (.bool true) w e w' := by
  obtain ⟨b, rfl, hb, hw⟩ := hp
  exact ⟨by rw [hb.2 h], hw⟩
theorem AliP.no {xs : List Nat} {ys : List Int} (h : ¬isAli xs ys) {w w' : World} {e : Ending} (hp : AliP xs ys w e w') : RetB (.bool false) w e w' := by
  obtain ⟨b, rfl, hb, hw⟩ := hp
  refine ⟨?_, hw⟩
  cases b with
  | true => exact absurd (hb.1 rfl) h
  | false => rfl
theorem AliP.mk {xs : List Nat} {ys : List Int} {w w' : World} (b : Bool) (h : b = true ↔ isAli xs ys) (hw : Below w.heap.size w w') : AliP xs ys w (.returned (.bool b)) w' := ⟨b, rfl, h, hw⟩
theorem AliS.mk {xs : List Nat} {ys : List Int} {w : World} (b : Bool) (h : b = true ↔ isAli xs ys) : AliS xs ys w (.returned (.bool b)) w := ⟨b, rfl, h, rfl⟩
theorem falseAli {xs : List Nat} {ys : List Int} (h : ¬ isAli xs ys) : false = true ↔ isAli xs ys := ⟨fun h => (by cases h), fun h' => absurd h' h⟩
set_option maxRecDepth 100000 in
set_option maxHeartbeats 1000000 in
theorem implValidAlias_any (xs : List Nat) (ys : List Int) (m : Nat) (hm : ys.length = m) (ao bo : Option Addr) (c d : Nat) (w : World) (hx : Holds w ao (fl .f32 xs)) (hy : Holds w bo (il ys)) (hlen : xs.length ≤ 1048576) (hml : m ≤ 1048576) :
    Calls Try.prog 30 #[.agg #[.slice ao xs.length c, .slice bo m d]] w (AliP xs ys w) := by
  have HX := Lib.hid (And.intro hx hy)
  have HM := Lib.hid hm
  have hl' : (xs.length : Int) ≤ 1048576 := by omega
  clear hx hy hm
  by_cases h0 : (1 : Int) ≤ xs.length ∧ (xs.length : Int) ≤ 64
  · have H0 := Lib.hid h0
    have hl64 : xs.length ≤ 64 := by omega
    have hl1 : 1 ≤ xs.length := by omega
    clear h0
    by_cases he : m = xs.length
    · subst he
      go_enter Try.func30, Try.ntmps30
      go_wp2_with (first | (go_at_call 76; refine (isPick_yes _ H0.out _).mono ?_; rintro e w' ⟨rfl, rfl⟩))
      generalize hW : World.alloc _ _ = w1
      have H1 : Hid (Whole w1 w.heap.size 43 #[.slice ao xs.length c, .slice bo xs.length d] ∧ Below w.heap.size w w1) := Lib.hid (by rw [← hW]; exact ⟨Whole.made _ _ _, (by repeat (first | with_reducible exact Below.refl _ _ | with_reducible exact HBL | with_reducible refine Below.drew ?_ | with_reducible refine Bel_drewN ?_ _ | with_reducible refine Below.alloc ?_ (by first | omega | (simp; done) | (simp; omega)) _ | with_reducible refine Below.setCell ?_ (by first | omega | (simp; done) | (simp; omega)) _))⟩)
      clear hW
      obtain ⟨hc0, hf0⟩ := H1.out.1.facts
      go_loopw [24] (fun i wr => ∃ k : Nat, k ≤ xs.length ∧ i = .int .i64 k ∧ (∀ i, i < k → okAt xs.length (xs[i]?.getD 0) (ys[i]?.getD 0)) ∧ wr = w1) (fun i _ => xs.length - (intOf i).toNat)
      case atStart => exact ⟨0, Nat.zero_le _, rfl, fun i hi => absurd hi (Nat.not_lt_zero _), rfl⟩
      case round =>
        obtain ⟨k, hk, rfl, hall, rfl⟩ := hrel
        have HA := Lib.hid hall
        clear hall
        by_cases hlt : k < xs.length
        · obtain ⟨b, o, rfl, hc⟩ := (HX.out.1.below H1.out.2) k (by simpa [fl] using hlt)
          obtain ⟨b', o', rfl, hc'⟩ := (HX.out.2.below H1.out.2) k (by have := HM.out; simp [il]; omega)
          rw [fl_get _ _ _ hlt] at hc
          rw [il_get _ _ (by have := HM.out; omega)] at hc'
          obtain ⟨x, hx⟩ : ∃ x, x = xs[k]?.getD 0 := ⟨_, rfl⟩
          obtain ⟨y, hy⟩ : ∃ y, y = ys[k]?.getD 0 := ⟨_, rfl⟩
          rw [← hx] at hc
          rw [← hy] at hc'
          have HE := Lib.hid (And.intro hx hy)
          clear hx hy
          go_wp2_with (first | (go_at_call 62; fail))
          refine (isWithin_any _ _ _ _).mono ?_
          rintro e w' ⟨rfl, rfl⟩
          have hpe : (geB x 0 && leB x 1065353216) = partB x := rfl
          rw [hpe]
          clear hpe
          cases hp : partB x with
          | false =>
            have HP := Lib.hid hp
            clear hp
            go_wp2
            go_ret
            refine AliP.mk _ (falseAli fun h => ?_) H1.out.2
            have := (h.2.2 k hlt).1
            rw [← HE.out.1, HP.out] at this
            cases this
          | true =>
            have HP := Lib.hid hp
            clear hp
            by_cases hy : 0 ≤ y ∧ y < (xs.length : Int)
            · have HY := Lib.hid hy
              clear hy
              go_wp2_with (first | (go_at_call 77; refine (below_yes _ _ HY.out _).mono ?_; rintro e w' ⟨rfl, rfl⟩))
              go_roundw
              case rel =>
                refine ⟨k + 1, by omega, by go_num, fun i hi => ?_, trivial⟩
                by_cases e : i = k
                · subst e; rw [← HE.out.1, ← HE.out.2]; exact ⟨HP.out, HY.out⟩
                · exact HA.out i (by omega)
              case measure => simp [intOf]; omega
            · have HY := Lib.hid hy
              clear hy
              go_wp2_with (first | (go_at_call 77; refine (below_no _ _ HY.out _).mono ?_; rintro e w' ⟨rfl, rfl⟩))
              go_ret
              refine AliP.mk _ (falseAli fun h => ?_) H1.out.2
              have := (h.2.2 k hlt).2
              rw [← HE.out.2] at this
              exact HY.out this
        · obtain rfl : k = xs.length := by omega
          go_wp2
          go_ret
          exact AliP.mk _ ⟨fun _ => ⟨⟨by omega, by omega⟩, HM.out, HA.out⟩, fun _ => rfl⟩ H1.out.2
    · have hne : ((m : Int) != (xs.length : Int)) = true := by simp; omega
      have HN := Lib.hid he
      clear he
      go_enter Try.func30, Try.ntmps30
      go_wp2_with (first | (go_at_call 76; refine (isPick_yes _ H0.out _).mono ?_; rintro e w' ⟨rfl, rfl⟩))
      go_ret
      exact AliP.mk _ (falseAli fun h => HN.out (HM.out.symm.trans h.2.1)) ((by repeat (first | with_reducible exact Below.refl _ _ | with_reducible exact HBL | with_reducible refine Below.drew ?_ | with_reducible refine Bel_drewN ?_ _ | with_reducible refine Below.alloc ?_ (by first | omega | (simp; done) | (simp; omega)) _ | with_reducible refine Below.setCell ?_ (by first | omega | (simp; done) | (simp; omega)) _)))
  · have H0 := Lib.hid h0
    clear h0
    go_enter Try.func30, Try.ntmps30
    go_wp2_with (first | (go_at_call 76; refine (isPick_no _ H0.out _).mono ?_; rintro e w' ⟨rfl, rfl⟩))
    go_ret
    exact AliP.mk _ (falseAli fun h => H0.out (by have := h.1; omega)) ((by repeat (first | with_reducible exact Below.refl _ _ | with_reducible exact HBL | with_reducible refine Below.drew ?_ | with_reducible refine Bel_drewN ?_ _ | with_reducible refine Below.alloc ?_ (by first | omega | (simp; done) | (simp; omega)) _ | with_reducible refine Below.setCell ?_ (by first | omega | (simp; done) | (simp; omega)) _)))
set_option maxRecDepth 100000 in
set_option maxHeartbeats 1000000 in
theorem l03IsAlias_any (xs : List Nat) (ys : List Int) (m : Nat) (hm : ys.length = m) (ao bo : Option Addr) (c d g : Nat) (w : World) (hw : Whole w g 43 #[.slice ao xs.length c, .slice bo m d]) (hx : Holds w ao (fl .f32 xs)) (hy : Holds w bo (il ys)) (hlen : xs.length ≤ 1048576) (hml : m ≤ 1048576) :
    Calls Try.prog 75 #[.pointer (some ⟨g, 0, none⟩)] w (AliS xs ys w) := by
  have HX := Lib.hid (And.intro hx hy)
  have HM := Lib.hid hm
  have hl' : (xs.length : Int) ≤ 1048576 := by omega
  obtain ⟨hc0, hf0⟩ := hw.facts
  clear hx hy hm hw
  by_cases h0 : xs.length < 1
  · have h0' : (xs.length : Int) < 1 := by omega
    go_enter Try.func75, Try.ntmps75
    go_wp2
    go_ret
    exact AliS.mk _ (falseAli fun h => by have := h.1; omega)
  · have h0' : (1 : Int) ≤ xs.length := by omega
    by_cases h1 : 64 < xs.length
    · have h1' : (64 : Int) < xs.length := by omega
      go_enter Try.func75, Try.ntmps75
      go_wp2
      go_ret
      exact AliS.mk _ (falseAli fun h => by have := h.1; omega)
    · have h1' : (xs.length : Int) ≤ 64 := by omega
      by_cases he : m = xs.length
      · subst he
        go_enter Try.func75, Try.ntmps75
        go_wp2
        go_loopw [30] (fun i wr => ∃ k : Nat, k ≤ xs.length ∧ i = .int .i64 k ∧ (∀ i, i < k → okAt xs.length (xs[i]?.getD 0) (ys[i]?.getD 0)) ∧ wr = w) (fun i _ => xs.length - (intOf i).toNat)
        case atStart => exact ⟨0, Nat.zero_le _, rfl, fun i hi => absurd hi (Nat.not_lt_zero _), rfl⟩
        case round =>
          obtain ⟨k, hk, rfl, hall, rfl⟩ := hrel
          have HA := Lib.hid hall
          clear hall
          by_cases hlt : k < xs.length
          · obtain ⟨b, o, rfl, hc⟩ := HX.out.1 k (by simpa [fl] using hlt)
            obtain ⟨b', o', rfl, hc'⟩ := HX.out.2 k (by have := HM.out; simp [il]; omega)
            rw [fl_get _ _ _ hlt] at hc
            rw [il_get _ _ (by have := HM.out; omega)] at hc'
            obtain ⟨x, hx⟩ : ∃ x, x = xs[k]?.getD 0 := ⟨_, rfl⟩
            obtain ⟨y, hy⟩ : ∃ y, y = ys[k]?.getD 0 := ⟨_, rfl⟩
            rw [← hx] at hc
            rw [← hy] at hc'
            have HE := Lib.hid (And.intro hx hy)
            clear hx hy
            cases hp : partB x with
            | false =>
              have HP := Lib.hid hp
              clear hp
              go_wp2_with (first | (go_at_call 113; refine (l02Part_any _ _).mono ?_; rintro e w' ⟨rfl, rfl⟩; rw [HP.out]))
              go_ret
              refine AliS.mk _ (falseAli fun h => ?_)
              have := (h.2.2 k hlt).1
              rw [← HE.out.1, HP.out] at this
              cases this
            | true =>
              have HP := Lib.hid hp
              clear hp
              by_cases hy : 0 ≤ y ∧ y ≤ (xs.length : Int) - 1
              · have HY := Lib.hid hy
                clear hy
                go_wp2_with (first | (go_at_call 113; refine (l02Part_any _ _).mono ?_; rintro e w' ⟨rfl, rfl⟩; rw [HP.out]) | (go_at_call 84; refine (l00In_yes _ _ _ HY.out.1 HY.out.2 _).mono ?_; rintro e w' ⟨rfl, rfl⟩))
                go_roundw
                case rel =>
                  refine ⟨k + 1, by omega, by go_num, fun i hi => ?_, trivial⟩
                  by_cases e : i = k
                  · subst e; rw [← HE.out.1, ← HE.out.2]; exact ⟨HP.out, HY.out.1, by have := HY.out.2; omega⟩
                  · exact HA.out i (by omega)
                case measure => simp [intOf]; omega
              · have HY : Hid (y < 0 ∨ (xs.length : Int) - 1 < y) := Lib.hid (by omega)
                clear hy
                go_wp2_with (first | (go_at_call 113; refine (l02Part_any _ _).mono ?_; rintro e w' ⟨rfl, rfl⟩; rw [HP.out]) | (go_at_call 84; refine (l00In_no _ _ _ HY.out _).mono ?_; rintro e w' ⟨rfl, rfl⟩))
                go_ret
                refine AliS.mk _ (falseAli fun h => ?_)
                have := (h.2.2 k hlt).2
                rw [← HE.out.2] at this
                have := HY.out
                omega
          · obtain rfl : k = xs.length := by omega
            go_wp2
            go_ret
            exact AliS.mk _ ⟨fun _ => ⟨⟨by omega, by omega⟩, HM.out, HA.out⟩, fun _ => rfl⟩
      · have hne : ((m : Int) != (xs.length : Int)) = true := by simp; omega
        have HN := Lib.hid he
        clear he
        go_enter Try.func75, Try.ntmps75
        go_wp2
        go_ret
        exact AliS.mk _ (falseAli fun h => HN.out (HM.out.symm.trans h.2.1))
theorem specValidAlias_any (xs : List Nat) (ys : List Int) (m : Nat) (hm : ys.length = m) (ao bo : Option Addr) (c d : Nat) (w : World) (hx : Holds w ao (fl .f32 xs)) (hy : Holds w bo (il ys)) (hlen : xs.length ≤ 1048576) (hml : m ≤ 1048576) :
    Calls Try.prog 28 #[.agg #[.slice ao xs.length c, .slice bo m d]] w (AliP xs ys w) := by
  have HX := Lib.hid (And.intro hx (And.intro hy hm))
  clear hx hy hm
  go_enter Try.func28, Try.ntmps28
  go_wp2_with (first | (go_at_call 75; fail))
  have hb : Below w.heap.size w (w.alloc (.cells #[.slice ao xs.length c, .slice bo m d] 43)) := (by repeat (first | with_reducible exact Below.refl _ _ | with_reducible exact HBL | with_reducible refine Below.drew ?_ | with_reducible refine Bel_drewN ?_ _ | with_reducible refine Below.alloc ?_ (by first | omega | (simp; done) | (simp; omega)) _ | with_reducible refine Below.setCell ?_ (by first | omega | (simp; done) | (simp; omega)) _))
  refine (l03IsAlias_any xs ys m HX.out.2.2 ao bo c d _ _ (Whole.made _ _ _) (HX.out.1.below hb) (HX.out.2.1.below hb) hlen hml).mono ?_
  rintro e w' ⟨b, rfl, hb2, rfl⟩
  have HB := Lib.hid (And.intro hb hb2)
  clear hb hb2
  go_wp2
  go_ret
  exact AliP.mk _ HB.out.2 HB.out.1
end Go.Proofs.Ytlipdegiihojfaa
