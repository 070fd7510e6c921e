/- Seeds of streams, the model's. -/
import Derived.Test.YtdnelmmbiccjcaaSp
namespace Go.Proofs.Ytdnelmmbiccjcaa
open Go Go.RowKit
set_option linter.unusedVariables false

set_option maxRecDepth 100000 in
set_option maxHeartbeats 1000000 in
theorem l02Split_any (g : Nat) (k : Int) (a b s : Nat) (w : World) (hs : s ≤ 1000000) (ha : a < 18446744073709551616) (hb : b < 18446744073709551616) (hw : Whole w g 28 (sdC k a b)) :
    Calls Try.prog 61 #[.pointer (some ⟨g, 0, none⟩), .int .i64 s] w (RetB (sd k (splA a b s) (splB k a b s)) w) := by
  have h1 : IntKind.u64.wrap (IntKind.u64.wrap ((b : Int) + s) + 1) = ((b + s + 1) % 18446744073709551616 : Nat) := by rw [IntKind.wrap_u64, IntKind.wrap_u64]; omega
  have h2 : IntKind.u64.wrap ((mixN a : Int) + mixN ((b + s + 1) % 18446744073709551616)) = (splX a b s : Nat) := wadd _ _
  have h0 : IntKind.u64.wrap (s : Int) = s := by rw [IntKind.wrap_u64]; omega
  have hg := hw.lt
  have HW := Lib.hid hw
  obtain ⟨hc0, hf0⟩ := hw.facts
  clear hw
  go_enter Try.func61, Try.ntmps61
  go_wp2
  go_quiet ((go_at_call 112; exact quiet_same (l02Mix_any _ (by first | assumption | exact mod_lt64 _) _)))
  rename_i nq
  go_wp2
  have h3 : IntKind.u64.wrap ((splX a b s : Int) + 1) = ((splX a b s + 1) % 18446744073709551616 : Nat) := wadd _ 1
  generalize hX : splX a b s = x at *
  generalize hW : World.drewN _ nq = wq
  have q0 : Whole wq g 28 (sdC k a b) := by rw [← hW]; exact ((HW.out.alloc _).drewN _)
  have q1 : Whole wq w.heap.size 28 (sdC 0 0 0) := by rw [← hW]; exact ((Whole.made w 28 (sdC 0 0 0)).drewN _)
  have HBL : Below w.heap.size w wq := by rw [← hW]; exact (Bel_drewN ((Below.refl _ _).alloc (Nat.le_refl _) _) _)
  clear hW hc0 hf0
  have c0' : wq.cell? ⟨g, 0, none⟩ = some (.int .i64 k) := q0.facts.1 0
  have H := Lib.hid (And.intro q0 (And.intro q1 HBL))
  have z0 : g < wq.heap.size := q0.lt
  clear q0 q1 HBL
  have nn := World.new_ne wq _ c0'
  go_region_held3 (fun v => v.cell? ⟨g, 0, none⟩ = some (.int .i64 k)) (first | (go_simp; done) | go_keep | (repeat (first | assumption | refine cell_drew _ ?_ | refine cell_old _ _ ?_)))
    (first | (go_at_call 112; refine (l02Mix_any _ (mod_lt64 _) _).mono ?_; rintro e w' ⟨rfl, rfl⟩))
  all_goals
    rename_i hH
    clear hH
    have hMx : mixN ((x + 1) % 18446744073709551616) = splM a b s := by unfold splM; rw [hX]
    rw [hMx]
    generalize hW3 : World.drew _ = w3
    have p0 : Whole w3 g 28 (sdC k a b) := by rw [← hW3]; exact (H.out.1.alloc _).drew
    have p1 : Whole w3 w.heap.size 28 (sdC 0 0 0) := by rw [← hW3]; exact (H.out.2.1.alloc _).drew
    have p2 : Whole w3 wq.heap.size 28 (sdC k x (splM a b s)) := by rw [← hW3]; exact (Whole.made wq _ (sdC k x (splM a b s))).drew
    have HBL : Below w.heap.size w w3 := by rw [← hW3]; exact (H.out.2.2.alloc (by have := H.out.2.1.lt; omega) _).drew
    have zq : w.heap.size < wq.heap.size := H.out.2.1.lt
    have z3 : wq.heap.size < w3.heap.size := p2.lt
    have z31 : w.heap.size < w3.heap.size := p1.lt
    obtain ⟨hc0, hf0⟩ := p0.facts
    obtain ⟨hd1, hg1⟩ := p1.facts
    obtain ⟨hd2, hg2⟩ := p2.facts
    have hne : wq.heap.size ≠ w.heap.size := by omega
    have hne' : w.heap.size ≠ wq.heap.size := by omega
    have hneg : wq.heap.size ≠ g := by omega
    have HP := Lib.hid (And.intro p1 (And.intro p2 HBL))
    have hml : (splM a b s : Int) < 18446744073709551616 := by have := splM_lt a b s; omega
    clear hW3 p0 p1 p2 HBL hMx h1 h2 h3 nn c0' H
    by_cases hx0 : x = 0
    · have hA : (1 : Int) = (splA a b s : Nat) := by unfold splA; rw [hX, if_pos hx0]; rfl
      have HA := Lib.hid hA
      clear hA hX
      subst hx0
      by_cases hk : k = 0
      · by_cases hev : splM a b s % 2 = 0
        · have hB : splM a b s + 1 = splB k a b s := by unfold splB; rw [if_pos ⟨hk, hev⟩]
          have hB' : (splM a b s : Int) + 1 = (splB k a b s : Nat) := by omega
          have hev' : (splM a b s : Int) % 2 = 0 := by omega
          have hw : IntKind.u64.wrap ((splM a b s : Int) + 1) = (splB k a b s : Nat) := by rw [hB', IntKind.wrap_u64]; have := splB_lt k a b s; omega
          subst hk
          clear hev hB hB'
          go_wp2
          obtain ⟨p1, p2, HBL⟩ := HP.out
          exact bodyPost_ret (v := sd 0 (splA a b s) (splB 0 a b s)) (by simp [results, Try.results61, go_sem, hd1]; rw [← HA.out]) rfl ⟨rfl, by repeat (first | with_reducible exact Below.refl _ _ | with_reducible exact HBL | with_reducible refine Below.drew ?_ | with_reducible refine Bel_drewN ?_ _ | with_reducible refine Below.alloc ?_ (by first | omega | (simp; done) | (simp; omega)) _ | with_reducible refine Below.setCell ?_ (by first | omega | (simp; done) | (simp; omega)) _)⟩
        · have hB : splM a b s = splB k a b s := by unfold splB; rw [if_neg (fun h => hev h.2)]
          have hev' : ((splM a b s : Int) % 2 == 0) = false := by rw [beq_eq_false_iff_ne]; omega
          subst hk
          have HBB := Lib.hid hB
          clear hev hB
          go_wp2
          obtain ⟨p1, p2, HBL⟩ := HP.out
          exact bodyPost_ret (v := sd 0 (splA a b s) (splB 0 a b s)) (by simp [results, Try.results61, go_sem, hd1]; rw [← HA.out, HBB.out]; simp) rfl ⟨rfl, by repeat (first | with_reducible exact Below.refl _ _ | with_reducible exact HBL | with_reducible refine Below.drew ?_ | with_reducible refine Bel_drewN ?_ _ | with_reducible refine Below.alloc ?_ (by first | omega | (simp; done) | (simp; omega)) _ | with_reducible refine Below.setCell ?_ (by first | omega | (simp; done) | (simp; omega)) _)⟩
      · have hB : splM a b s = splB k a b s := by unfold splB; rw [if_neg (fun h => hk h.1)]
        have HBB := Lib.hid hB
        clear hB
        go_wp2
        obtain ⟨p1, p2, HBL⟩ := HP.out
        exact bodyPost_ret (v := sd k (splA a b s) (splB k a b s)) (by simp [results, Try.results61, go_sem, hd1]; rw [← HA.out, HBB.out]; simp) rfl ⟨rfl, by repeat (first | with_reducible exact Below.refl _ _ | with_reducible exact HBL | with_reducible refine Below.drew ?_ | with_reducible refine Bel_drewN ?_ _ | with_reducible refine Below.alloc ?_ (by first | omega | (simp; done) | (simp; omega)) _ | with_reducible refine Below.setCell ?_ (by first | omega | (simp; done) | (simp; omega)) _)⟩
    · have hA : (x : Int) = (splA a b s : Nat) := by unfold splA; rw [hX, if_neg hx0]
      have HA := Lib.hid hA
      have hx0' : ((x : Int) == 0) = false := by rw [beq_eq_false_iff_ne]; omega
      clear hA hX
      by_cases hk : k = 0
      · by_cases hev : splM a b s % 2 = 0
        · have hB : splM a b s + 1 = splB k a b s := by unfold splB; rw [if_pos ⟨hk, hev⟩]
          have hB' : (splM a b s : Int) + 1 = (splB k a b s : Nat) := by omega
          have hev' : (splM a b s : Int) % 2 = 0 := by omega
          have hw : IntKind.u64.wrap ((splM a b s : Int) + 1) = (splB k a b s : Nat) := by rw [hB', IntKind.wrap_u64]; have := splB_lt k a b s; omega
          subst hk
          clear hev hB hB'
          go_wp2
          obtain ⟨p1, p2, HBL⟩ := HP.out
          exact bodyPost_ret (v := sd 0 (splA a b s) (splB 0 a b s)) (by simp [results, Try.results61, go_sem, hd1]; rw [← HA.out]) rfl ⟨rfl, by repeat (first | with_reducible exact Below.refl _ _ | with_reducible exact HBL | with_reducible refine Below.drew ?_ | with_reducible refine Bel_drewN ?_ _ | with_reducible refine Below.alloc ?_ (by first | omega | (simp; done) | (simp; omega)) _ | with_reducible refine Below.setCell ?_ (by first | omega | (simp; done) | (simp; omega)) _)⟩
        · have hB : splM a b s = splB k a b s := by unfold splB; rw [if_neg (fun h => hev h.2)]
          have hev' : ((splM a b s : Int) % 2 == 0) = false := by rw [beq_eq_false_iff_ne]; omega
          subst hk
          have HBB := Lib.hid hB
          clear hev hB
          go_wp2
          obtain ⟨p1, p2, HBL⟩ := HP.out
          exact bodyPost_ret (v := sd 0 (splA a b s) (splB 0 a b s)) (by simp [results, Try.results61, go_sem, hd1]; rw [← HA.out, HBB.out]; simp) rfl ⟨rfl, by repeat (first | with_reducible exact Below.refl _ _ | with_reducible exact HBL | with_reducible refine Below.drew ?_ | with_reducible refine Bel_drewN ?_ _ | with_reducible refine Below.alloc ?_ (by first | omega | (simp; done) | (simp; omega)) _ | with_reducible refine Below.setCell ?_ (by first | omega | (simp; done) | (simp; omega)) _)⟩
      · have hB : splM a b s = splB k a b s := by unfold splB; rw [if_neg (fun h => hk h.1)]
        have HBB := Lib.hid hB
        clear hB
        go_wp2
        obtain ⟨p1, p2, HBL⟩ := HP.out
        exact bodyPost_ret (v := sd k (splA a b s) (splB k a b s)) (by simp [results, Try.results61, go_sem, hd1]; rw [← HA.out, HBB.out]; simp) rfl ⟨rfl, by repeat (first | with_reducible exact Below.refl _ _ | with_reducible exact HBL | with_reducible refine Below.drew ?_ | with_reducible refine Bel_drewN ?_ _ | with_reducible refine Below.alloc ?_ (by first | omega | (simp; done) | (simp; omega)) _ | with_reducible refine Below.setCell ?_ (by first | omega | (simp; done) | (simp; omega)) _)⟩
end Go.Proofs.Ytdnelmmbiccjcaa
