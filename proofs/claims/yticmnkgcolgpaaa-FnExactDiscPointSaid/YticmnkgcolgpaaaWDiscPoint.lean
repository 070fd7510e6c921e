/- The walk of the law FnExactDiscPoint. -/
import Derived.Test.YticmnkgcolgpaaaDit
namespace Go.Proofs.Yticmnkgcolgpaaa
open Go Go.RowKit Fl
set_option linter.unusedVariables false

set_option maxRecDepth 100000 in
set_option maxHeartbeats 800000 in
theorem FnExactDiscPoint_walk (k : Int) (a b : Nat) (h_k : (Lit.int .i64 k).wf = true) (h_a : a < 18446744073709551616) (h_b : b < 18446744073709551616) (w : World)  :
    Calls Try.prog 5 #[sd k a b] w fun e w' => e = .returned (.bool true) ∧ Below w.heap.size w w' := by
  by_cases hv0 : ∃ N, discYes k a b N
  · have HV := Lib.hid hv0
    clear hv0
    obtain ⟨N, hN⟩ := HV.out
    have HD := Lib.hid hN
    clear hN
    go_enter Try.func5, Try.ntmps5
    go_wp2_with fail
    refine (toSeed_ret k a b _).mono ?_
    rintro e w1 ⟨rfl, hb⟩
    have hs : Below w.heap.size w w1 := Bel_next (by repeat (first | exact Below.refl _ _ | refine Below.drew ?_ | refine Bel_drewN ?_ _ | refine Below.alloc ?_ (by first | omega | (simp; done) | (simp; omega)) _ | refine Below.setCell ?_ (by first | omega | simp) _)) hb
    have Q0 := Lib.hid ((Whole.made w 30 (sdC k a b)).below hb)
    have yQ0 := Q0.out.lt
    have HB1 : Hid (Below w.heap.size w w1) := Lib.hid hs
    have z1 : w.heap.size ≤ w1.heap.size := hs.size
    clear hb hs
    have hcQ0 := Q0.out.facts.1
    have hzQ0 := Q0.out.lt
    go_wp2_with fail
    clear hcQ0 hzQ0
    refine (specDisc_yes h_a h_b HD.out _).mono ?_
    rintro e w2 ⟨rs, ts, rfl, hrs, hts, hb⟩
    have hs : Below w1.heap.size w1 w2 := Bel_next (by repeat (first | exact Below.refl _ _ | refine Below.drew ?_ | refine Bel_drewN ?_ _ | refine Below.alloc ?_ (by first | omega | (simp; done) | (simp; omega)) _ | refine Below.setCell ?_ (by first | omega | simp) _)) hb
    replace Q0 := Lib.hid (Whole.below Q0.out hs)
    have HB2 : Hid (Below w.heap.size w w2) := Lib.hid (Bel_next HB1.out hs)
    have z2 : w1.heap.size ≤ w2.heap.size := hs.size
    clear hb hs HB1
    have HRs := Lib.hid (And.intro hrs hts)
    clear hrs hts
    have hcQ0 := Q0.out.facts.1
    have hzQ0 := Q0.out.lt
    go_wp2_with fail
    clear hcQ0 hzQ0
    refine (toSeed_ret k a b _).mono ?_
    rintro e w3 ⟨rfl, hb⟩
    have hs : Below w2.heap.size w2 w3 := Bel_next (by repeat (first | exact Below.refl _ _ | refine Below.drew ?_ | refine Bel_drewN ?_ _ | refine Below.alloc ?_ (by first | omega | (simp; done) | (simp; omega)) _ | refine Below.setCell ?_ (by first | omega | simp) _)) hb
    replace Q0 := Lib.hid (Whole.below Q0.out hs)
    have Q1 := Lib.hid ((Whole.made w2 31 (sdC k (sN k a b N).1 (sN k a b N).2)).below hb)
    have yQ1 := Q1.out.lt
    have HB3 : Hid (Below w.heap.size w w3) := Lib.hid (Bel_next HB2.out hs)
    have z3 : w2.heap.size ≤ w3.heap.size := hs.size
    clear hb hs HB2
    have hcQ0 := Q0.out.facts.1
    have hzQ0 := Q0.out.lt
    have hcQ1 := Q1.out.facts.1
    have hzQ1 := Q1.out.lt
    go_wp2_with fail
    clear hcQ0 hzQ0
    clear hcQ1 hzQ1
    refine (implDisc_yes h_a h_b HD.out _).mono ?_
    rintro e w4 ⟨rg, tg, rfl, hrg, htg, hb⟩
    have hs : Below w3.heap.size w3 w4 := Bel_next (by repeat (first | exact Below.refl _ _ | refine Below.drew ?_ | refine Bel_drewN ?_ _ | refine Below.alloc ?_ (by first | omega | (simp; done) | (simp; omega)) _ | refine Below.setCell ?_ (by first | omega | simp) _)) hb
    replace Q0 := Lib.hid (Whole.below Q0.out hs)
    replace Q1 := Lib.hid (Whole.below Q1.out hs)
    have HB4 : Hid (Below w.heap.size w w4) := Lib.hid (Bel_next HB3.out hs)
    have z4 : w3.heap.size ≤ w4.heap.size := hs.size
    clear hb hs HB3
    have HRg := Lib.hid (And.intro hrg htg)
    clear hrg htg
    have hcQ0 := Q0.out.facts.1
    have hzQ0 := Q0.out.lt
    have hcQ1 := Q1.out.facts.1
    have hzQ1 := Q1.out.lt
    go_wp2_with fail
    clear hcQ0 hzQ0
    clear hcQ1 hzQ1
    refine (eqSeed_same _ _ _ _).mono ?_
    rintro e w5 ⟨rfl, hb⟩
    have hs : Below w4.heap.size w4 w5 := Bel_next (by repeat (first | exact Below.refl _ _ | refine Below.drew ?_ | refine Bel_drewN ?_ _ | refine Below.alloc ?_ (by first | omega | (simp; done) | (simp; omega)) _ | refine Below.setCell ?_ (by first | omega | simp) _)) hb
    replace Q0 := Lib.hid (Whole.below Q0.out hs)
    replace Q1 := Lib.hid (Whole.below Q1.out hs)
    have Q2 := Lib.hid ((Whole.made w4 31 (sdC k (sN k a b N).1 (sN k a b N).2)).below hb)
    have yQ2 := Q2.out.lt
    have HB5 : Hid (Below w.heap.size w w5) := Lib.hid (Bel_next HB4.out hs)
    have z5 : w4.heap.size ≤ w5.heap.size := hs.size
    clear hb hs HB4
    have hcQ0 := Q0.out.facts.1
    have hzQ0 := Q0.out.lt
    have hcQ1 := Q1.out.facts.1
    have hzQ1 := Q1.out.lt
    have hcQ2 := Q2.out.facts.1
    have hzQ2 := Q2.out.lt
    go_wp2_with (first | (refine wpList_widenC_g _ _ _ _ _ rfl Try.underlying23 Try.underlying26 rfl ?_; intro r t n hr ht) | (go_at_call 16; fail))
    clear hcQ0 hzQ0
    clear hcQ1 hzQ1
    clear hcQ2 hzQ2
    refine (sameComplex_any _ _ _ _ (widen (some (uD k a b N))) (widen (some (vD k a b N))) (by rw [← HRg.out.1.2]; assumption) (by rw [← HRg.out.2.2]; assumption) (by rw [← HRs.out.1.2]; assumption) (by rw [← HRs.out.2.2]; assumption) _).mono ?_
    rintro e w' ⟨n3, rfl, rfl⟩
    go_wp2_with fail
    go_ret
    exact ⟨rfl, Bel_next HB5.out (by repeat (first | exact Below.refl _ _ | refine Below.drew ?_ | refine Bel_drewN ?_ _ | refine Below.alloc ?_ (by first | omega | (simp; done) | (simp; omega)) _ | refine Below.setCell ?_ (by first | omega | simp) _))⟩
  have HV := Lib.hid hv0
  clear hv0
  go_enter Try.func5, Try.ntmps5
  go_wp2_with fail
  refine (toSeed_ret k a b _).mono ?_
  rintro e w1 ⟨rfl, hb⟩
  have hs : Below w.heap.size w w1 := Bel_next (by repeat (first | exact Below.refl _ _ | refine Below.drew ?_ | refine Bel_drewN ?_ _ | refine Below.alloc ?_ (by first | omega | (simp; done) | (simp; omega)) _ | refine Below.setCell ?_ (by first | omega | simp) _)) hb
  have Q0 := Lib.hid ((Whole.made w 30 (sdC k a b)).below hb)
  have yQ0 := Q0.out.lt
  have HB1 : Hid (Below w.heap.size w w1) := Lib.hid hs
  have z1 : w.heap.size ≤ w1.heap.size := hs.size
  clear hb hs
  have hcQ0 := Q0.out.facts.1
  have hzQ0 := Q0.out.lt
  go_wp2_with fail
  clear hcQ0 hzQ0
  refine (specDisc_no h_a h_b HV.out _).mono ?_
  rintro e w2 ⟨rs, ts, rfl, hrs, hts, hb⟩
  have hs : Below w1.heap.size w1 w2 := Bel_next (by repeat (first | exact Below.refl _ _ | refine Below.drew ?_ | refine Bel_drewN ?_ _ | refine Below.alloc ?_ (by first | omega | (simp; done) | (simp; omega)) _ | refine Below.setCell ?_ (by first | omega | simp) _)) hb
  replace Q0 := Lib.hid (Whole.below Q0.out hs)
  have HB2 : Hid (Below w.heap.size w w2) := Lib.hid (Bel_next HB1.out hs)
  have z2 : w1.heap.size ≤ w2.heap.size := hs.size
  clear hb hs HB1
  have HRs := Lib.hid (And.intro hrs hts)
  clear hrs hts
  have hcQ0 := Q0.out.facts.1
  have hzQ0 := Q0.out.lt
  go_wp2_with fail
  clear hcQ0 hzQ0
  refine (toSeed_ret k a b _).mono ?_
  rintro e w3 ⟨rfl, hb⟩
  have hs : Below w2.heap.size w2 w3 := Bel_next (by repeat (first | exact Below.refl _ _ | refine Below.drew ?_ | refine Bel_drewN ?_ _ | refine Below.alloc ?_ (by first | omega | (simp; done) | (simp; omega)) _ | refine Below.setCell ?_ (by first | omega | simp) _)) hb
  replace Q0 := Lib.hid (Whole.below Q0.out hs)
  have Q1 := Lib.hid ((Whole.made w2 31 (sdC 0 0 0)).below hb)
  have yQ1 := Q1.out.lt
  have HB3 : Hid (Below w.heap.size w w3) := Lib.hid (Bel_next HB2.out hs)
  have z3 : w2.heap.size ≤ w3.heap.size := hs.size
  clear hb hs HB2
  have hcQ0 := Q0.out.facts.1
  have hzQ0 := Q0.out.lt
  have hcQ1 := Q1.out.facts.1
  have hzQ1 := Q1.out.lt
  go_wp2_with fail
  clear hcQ0 hzQ0
  clear hcQ1 hzQ1
  refine (implDisc_no h_a h_b HV.out _).mono ?_
  rintro e w4 ⟨rg, tg, rfl, hrg, htg, hb⟩
  have hs : Below w3.heap.size w3 w4 := Bel_next (by repeat (first | exact Below.refl _ _ | refine Below.drew ?_ | refine Bel_drewN ?_ _ | refine Below.alloc ?_ (by first | omega | (simp; done) | (simp; omega)) _ | refine Below.setCell ?_ (by first | omega | simp) _)) hb
  replace Q0 := Lib.hid (Whole.below Q0.out hs)
  replace Q1 := Lib.hid (Whole.below Q1.out hs)
  have HB4 : Hid (Below w.heap.size w w4) := Lib.hid (Bel_next HB3.out hs)
  have z4 : w3.heap.size ≤ w4.heap.size := hs.size
  clear hb hs HB3
  have HRg := Lib.hid (And.intro hrg htg)
  clear hrg htg
  have hcQ0 := Q0.out.facts.1
  have hzQ0 := Q0.out.lt
  have hcQ1 := Q1.out.facts.1
  have hzQ1 := Q1.out.lt
  go_wp2_with fail
  clear hcQ0 hzQ0
  clear hcQ1 hzQ1
  refine (eqSeed_same _ _ _ _).mono ?_
  rintro e w5 ⟨rfl, hb⟩
  have hs : Below w4.heap.size w4 w5 := Bel_next (by repeat (first | exact Below.refl _ _ | refine Below.drew ?_ | refine Bel_drewN ?_ _ | refine Below.alloc ?_ (by first | omega | (simp; done) | (simp; omega)) _ | refine Below.setCell ?_ (by first | omega | simp) _)) hb
  replace Q0 := Lib.hid (Whole.below Q0.out hs)
  replace Q1 := Lib.hid (Whole.below Q1.out hs)
  have Q2 := Lib.hid ((Whole.made w4 31 (sdC 0 0 0)).below hb)
  have yQ2 := Q2.out.lt
  have HB5 : Hid (Below w.heap.size w w5) := Lib.hid (Bel_next HB4.out hs)
  have z5 : w4.heap.size ≤ w5.heap.size := hs.size
  clear hb hs HB4
  have hcQ0 := Q0.out.facts.1
  have hzQ0 := Q0.out.lt
  have hcQ1 := Q1.out.facts.1
  have hzQ1 := Q1.out.lt
  have hcQ2 := Q2.out.facts.1
  have hzQ2 := Q2.out.lt
  go_wp2_with (first | (refine wpList_widenC_g _ _ _ _ _ rfl Try.underlying23 Try.underlying26 rfl ?_; intro r t n hr ht) | (go_at_call 16; fail))
  clear hcQ0 hzQ0
  clear hcQ1 hzQ1
  clear hcQ2 hzQ2
  refine (sameComplex_any _ _ _ _ (widen (some 0)) (widen (some 0)) (by rw [← HRg.out.1.2]; assumption) (by rw [← HRg.out.2.2]; assumption) (by rw [← HRs.out.1.2]; assumption) (by rw [← HRs.out.2.2]; assumption) _).mono ?_
  rintro e w' ⟨n3, rfl, rfl⟩
  go_wp2_with fail
  go_ret
  exact ⟨rfl, Bel_next HB5.out (by repeat (first | exact Below.refl _ _ | refine Below.drew ?_ | refine Bel_drewN ?_ _ | refine Below.alloc ?_ (by first | omega | (simp; done) | (simp; omega)) _ | refine Below.setCell ?_ (by first | omega | simp) _))⟩
end Go.Proofs.Yticmnkgcolgpaaa
