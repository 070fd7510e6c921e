/- Seeds of streams. -/
import Derived.Test.YtdnelmmbiccjcaaSe
import Derived.Test.YtdnelmmbiccjcaaIn0
import Derived.WalkLawsBesides
import Derived.Lib.MinMax
import Derived.Deep.RegionHeld3
namespace Go.Proofs.Ytdnelmmbiccjcaa
open Go Go.RowKit
set_option linter.unusedVariables false

def splX (a b s : Nat) : Nat := (mixN a + mixN ((b + s + 1) % 18446744073709551616)) % 18446744073709551616
def splA (a b s : Nat) : Nat := if splX a b s = 0 then 1 else splX a b s
def splM (a b s : Nat) : Nat := mixN ((splX a b s + 1) % 18446744073709551616)
def splB (k : Int) (a b s : Nat) : Nat := if k = 0 ∧ splM a b s % 2 = 0 then splM a b s + 1 else splM a b s
theorem splX_lt (a b s : Nat) : splX a b s < 18446744073709551616 := mod_lt64 _
theorem splA_lt (a b s : Nat) : splA a b s < 18446744073709551616 := by unfold splA; split; omega; exact splX_lt _ _ _
theorem splA_max (a b s : Nat) : max (splX a b s : Int) 1 = (splA a b s : Nat) := by unfold splA; generalize splX a b s = x; split <;> omega
theorem splM_lt (a b s : Nat) : splM a b s < 18446744073709551616 := mixN_lt _
theorem splB_lt (k : Int) (a b s : Nat) : splB k a b s < 18446744073709551616 := by
  have := splM_lt a b s
  unfold splB; split <;> omega
theorem splV (k : Int) (a b s : Nat) (hk : 0 ≤ k ∧ k ≤ 3) : vSeed k (splA a b s) (splB k a b s) = true := by
  have ha : splA a b s ≠ 0 := by unfold splA; split <;> omega
  obtain rfl | rfl | rfl | rfl : k = 0 ∨ k = 1 ∨ k = 2 ∨ k = 3 := by omega
  · simp only [vSeed, splB]; simp; split <;> omega
  · simp [vSeed, ha]
  · simp [vSeed]
  · simp [vSeed, ha]

set_option maxRecDepth 100000 in
set_option maxHeartbeats 1000000 in
theorem streamSeed_any (k : Int) (a b s : Nat) (w : World) (hs : s ≤ 1000000) (ha : a < 18446744073709551616) (hb : b < 18446744073709551616) :
    Calls Try.prog 65 #[sd k a b, .int .i64 s] w (RetB (sd k (splA a b s) (splB k a b s)) w) := by
  have h1 : IntKind.u64.wrap (IntKind.u64.wrap ((b : Int) + s) + 1) = ((b + s + 1) % 18446744073709551616 : Nat) := by rw [IntKind.wrap_u64, IntKind.wrap_u64]; omega
  have h2 : IntKind.u64.wrap ((mixN a : Int) + mixN ((b + s + 1) % 18446744073709551616)) = (splX a b s : Nat) := wadd _ _
  have h0 : IntKind.u64.wrap (s : Int) = s := by rw [IntKind.wrap_u64]; omega
  go_enter Try.func65, Try.ntmps65
  go_wp2
  go_quiet ((go_at_call 116; exact quiet_same (MixWord_any _ (by first | assumption | exact mod_lt64 _) _)))
  rename_i nq
  go_wp2
  have h3 : IntKind.u64.wrap ((splX a b s : Int) + 1) = ((splX a b s + 1) % 18446744073709551616 : Nat) := wadd _ 1
  have hM : max (splX a b s : Int) 1 = (splA a b s : Nat) := splA_max a b s
  generalize hX : splX a b s = x at *
  generalize hW : World.drewN _ nq = wq
  have q0 : Whole wq w.heap.size 28 (sdC k a b) := by rw [← hW]; exact (((Whole.made w 28 (sdC k a b)).alloc _).drewN _)
  have q1 : Whole wq (w.heap.size + 1) 28 (sdC 0 0 0) := by rw [← hW]; exact ((Whole.made2 w _ 28 (sdC 0 0 0)).drewN _)
  have HBL : Below w.heap.size w wq := by rw [← hW]; exact (Bel_drewN (((Below.refl _ _).alloc (Nat.le_refl _) _).alloc (by simp) _) _)
  clear hW
  have c0 := q0.facts.1 0
  have c0' : wq.cell? ⟨w.heap.size, 0, none⟩ = some (.int .i64 k) := c0
  clear c0
  have H := Lib.hid (And.intro q0 (And.intro q1 HBL))
  have z0 : w.heap.size < wq.heap.size := q0.lt
  clear q0 q1 HBL
  have nn := World.new_ne wq _ c0'
  go_region_held3 (fun v => v.cell? ⟨w.heap.size, 0, none⟩ = some (.int .i64 k)) (first | (go_simp; done) | go_keep | (repeat (first | assumption | refine cell_drew _ ?_ | refine cell_old _ _ ?_)))
    (first | (go_at_call 116; refine (MixWord_any _ (mod_lt64 _) _).mono ?_; rintro e w' ⟨rfl, rfl⟩))
  all_goals
    rename_i hH
    clear hH
    have hMx : mixN ((x + 1) % 18446744073709551616) = splM a b s := by unfold splM; rw [hX]
    rw [hMx]
    generalize hW3 : World.drew _ = w3
    have p1 : Whole w3 (w.heap.size + 1) 28 (sdC 0 0 0) := by rw [← hW3]; exact (H.out.2.1.alloc _).drew
    have p2 : Whole w3 wq.heap.size 28 (sdC k (splA a b s) (splM a b s)) := by rw [← hW3]; exact (Whole.made wq _ (sdC k (splA a b s) (splM a b s))).drew
    have HBL : Below w.heap.size w w3 := by rw [← hW3]; exact (H.out.2.2.alloc (by omega) _).drew
    have zq : w.heap.size + 1 < wq.heap.size := H.out.2.1.lt
    have z3 : wq.heap.size < w3.heap.size := p2.lt
    have z31 : w.heap.size + 1 < w3.heap.size := p1.lt
    obtain ⟨hd1, hg1⟩ := p1.facts
    obtain ⟨hd2, hg2⟩ := p2.facts
    have hne : wq.heap.size ≠ w.heap.size + 1 := by omega
    have hne' : w.heap.size + 1 ≠ wq.heap.size := by omega
    have HP := Lib.hid (And.intro p1 (And.intro p2 HBL))
    have hml : (splM a b s : Int) < 18446744073709551616 := by have := splM_lt a b s; omega
    clear hW3 p1 p2 HBL hM hMx h1 h2 h3 nn c0' H
    by_cases hk : k = 0
    · by_cases hev : splM a b s % 2 = 0
      · have hB : splM a b s + 1 = splB k a b s := by unfold splB; rw [if_pos ⟨hk, hev⟩]
        have hB' : (splM a b s : Int) + 1 = (splB k a b s : Nat) := by omega
        have hev' : (splM a b s : Int) % 2 = 0 := by omega
        have hw : IntKind.u64.wrap ((splM a b s : Int) + 1) = (splB k a b s : Nat) := by rw [hB', IntKind.wrap_u64]; have := splB_lt k a b s; omega
        subst hk
        clear hev hB hB'
        go_wp2
        obtain ⟨p1, p2, HBL⟩ := HP.out
        exact bodyPost_ret (v := sd 0 (splA a b s) (splB 0 a b s)) (by simp [results, Try.results65, go_sem, hd1]) rfl ⟨rfl, by repeat (first | with_reducible exact Below.refl _ _ | with_reducible exact HBL | with_reducible refine Below.drew ?_ | with_reducible refine Bel_drewN ?_ _ | with_reducible refine Below.alloc ?_ (by first | omega | (simp; done) | (simp; omega)) _ | with_reducible refine Below.setCell ?_ (by first | omega | (simp; done) | (simp; omega)) _)⟩
      · have hB : splM a b s = splB k a b s := by unfold splB; rw [if_neg (fun h => hev h.2)]
        have hev' : ((splM a b s : Int) % 2 == 0) = false := by rw [beq_eq_false_iff_ne]; omega
        subst hk
        have HBB := Lib.hid hB
        clear hev hB
        go_wp2
        obtain ⟨p1, p2, HBL⟩ := HP.out
        exact bodyPost_ret (v := sd 0 (splA a b s) (splB 0 a b s)) (by simp [results, Try.results65, go_sem, hd1]; rw [HBB.out]) rfl ⟨rfl, by repeat (first | with_reducible exact Below.refl _ _ | with_reducible exact HBL | with_reducible refine Below.drew ?_ | with_reducible refine Bel_drewN ?_ _ | with_reducible refine Below.alloc ?_ (by first | omega | (simp; done) | (simp; omega)) _ | with_reducible refine Below.setCell ?_ (by first | omega | (simp; done) | (simp; omega)) _)⟩
    · have hB : splM a b s = splB k a b s := by unfold splB; rw [if_neg (fun h => hk h.1)]
      have HBB := Lib.hid hB
      clear hB
      go_wp2
      obtain ⟨p1, p2, HBL⟩ := HP.out
      exact bodyPost_ret (v := sd k (splA a b s) (splB k a b s)) (by simp [results, Try.results65, go_sem, hd1]; rw [HBB.out]) rfl ⟨rfl, by repeat (first | with_reducible exact Below.refl _ _ | with_reducible exact HBL | with_reducible refine Below.drew ?_ | with_reducible refine Bel_drewN ?_ _ | with_reducible refine Below.alloc ?_ (by first | omega | (simp; done) | (simp; omega)) _ | with_reducible refine Below.setCell ?_ (by first | omega | (simp; done) | (simp; omega)) _)⟩
end Go.Proofs.Ytdnelmmbiccjcaa
