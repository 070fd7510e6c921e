/- A sorted copy, by insertion. -/
import Derived.Test.YtdmbhnllebipjabMe
import Derived.Test.YtdmbhnllebipjabMp
namespace Go.Proofs.Ytdmbhnllebipjab
open Go Go.RowKit
set_option linter.unusedVariables false

/-- These are the first cells. -/
def Cellsd (cs : Array Value) (L : List Int) : Prop := ∀ k : Nat, k < L.length → cs[k]? = some (.int .i64 (L[k]?.getD 0))
theorem Cellsd.size {cs : Array Value} {L : List Int} (h : Cellsd cs L) : L.length ≤ cs.size := by
  rcases Nat.eq_zero_or_pos L.length with h0 | h0
  · omega
  · have := (Array.getElem?_eq_some_iff.1 (h (L.length - 1) (by omega))).1; omega
theorem Cellsd.swp {cs : Array Value} {L : List Int} (h : Cellsd cs L) {k j : Nat} (hj : k = j + 1) (hk : k < L.length) : Cellsd ((cs.setIfInBounds k (.int .i64 (L[j]?.getD 0))).setIfInBounds j (.int .i64 (L[k]?.getD 0))) (swp L k) := fun a ha => by
  rw [swp_len] at ha
  have hs := h.size
  have e1 : k - 1 = j := by omega
  rw [swp_get L k a (by omega) hk, e1]
  by_cases e : a = j
  · subst e; rw [if_pos rfl, Array.getElem?_setIfInBounds_self_of_lt (by simp; omega)]
  · rw [if_neg e, Array.getElem?_setIfInBounds_ne (by omega)]
    by_cases e2 : a = k
    · subst e2; rw [if_pos rfl, Array.getElem?_setIfInBounds_self_of_lt (by omega)]
    · rw [if_neg e2, Array.getElem?_setIfInBounds_ne (by omega)]; exact h a ha

theorem wpList_appN {P : Program} {w : World} {ops : Array Oper} {rest : List Oper} {o : Oper} {a : Act} {Q : Exit → Act → World → Prop} (hgd : o.guard = none) (s x : Operand) (t : TypeId)
    (ho : o.op = .call { callee := .builtin .append, args := #[s, x], argTypes := #[t, t] })
    (base : Nat) (e : TypeId) (z : Value) (bytes : Nat) (ht : P.underlying t = some (.slice e)) (hi : (P.info? e).map (fun i => (i.zero, i.size, i.bytes)) = some (some z, 1, bytes)) (hz : z.cells.size = 1)
    (v : Value) (n : Nat) (xs : List Value) (hs : a.eval s = v) (hown : w.ownsRow base e 1 v n xs)
    (g p m c : Nat) (us : List Value) (hx : a.eval x = .slice (some ⟨g, p, none⟩) m c) (hl : us.length = m) (hc : ∀ i, i < us.length → w.cell? ⟨g, p + i, none⟩ = some (us.getD i undef)) (h1 : ∀ u ∈ us, u.oneCell' = true)
    (hn : (n + m) * bytes ≤ 140737488355328 ∧ n + m ≤ 140737488355328) (hbase : base ≤ w.heap.size)
    (h : ∀ v' w', w'.ownsRow base e 1 v' (n + m) (xs ++ us) → w.grownBy w' v.ownBlock → wpList P ops Q rest (a.put o.dst v') w') : wpList P ops Q (o :: rest) a w := by
  obtain ⟨i, hi, h1', h2, h3⟩ := info_parts hi
  refine wpList_append_own w hgd s x t ho base e i z 1 bytes ht hi h1' h2 h3 hz (by decide) v n xs hs hown ⟨g, p, none⟩ m c us hx (by omega) ?_ h1 ?_ hn.1 hbase (fun v' w' a1 a2 _ => h v' w' a1 a2)
  · intro j y hy
    have hj : j < us.length := (List.getElem?_eq_some_iff.1 hy).1
    have := hc j hj
    rw [show us.getD j undef = y by simp [List.getD, hy]] at this
    rw [Addr.add_lit]; exact this
  · unfold maxLen; omega

def SortedP (X : List Int) (n : Nat) (w : World) (e : Ending) (w' : World) : Prop := ∃ L : List Int, L.Perm X ∧ Srt L L.length ∧ RetL n (il L) (fun s => s) w e w'
set_option maxRecDepth 100000 in
set_option maxHeartbeats 800000 in
theorem l02Sorted_any (X : List Int) (n : Nat) (hn : X.length = n) (h1 : 1 ≤ n) (hn8 : n ≤ 1000) (ao : Option Addr) (c : Nat) (w : World) (hx : Holds w ao (il X)) :
    Calls Try.prog 65 #[.slice ao n c] w (SortedP X n w) := by
  have HX := Lib.hid hx
  have HN := Lib.hid hn
  obtain ⟨b, o, rfl, _⟩ := hx 0 (by simp [il]; omega)
  clear hx hn
  go_enter Try.func65, Try.ntmps65
  go_wp2_with (at_builtin; refine wpList_appN rfl _ _ 25 rfl w.heap.size 2 (.int .i64 0) 8 Try.underlying25 (by kernel_rfl) rfl _ 0 [] rfl (World.ownsRow_made _ _ _ (Nat.le_refl _) (Nat.zero_le _) rfl) b o n c (il X) rfl ?_ ?_ ?_ ⟨by omega, by omega⟩ ?_ ?_)
  · simp [il, HN.out]
  · intro i hi
    obtain ⟨b', o', e', hc⟩ := (HX.out.below ((Below.refl _ _).alloc (Nat.le_refl _) (.cells #[] 2))) i hi
    cases e'
    exact hc
  · intro u hu; simp [il] at hu; obtain ⟨y, _, rfl⟩ := hu; rfl
  · simp
  · intro v' wa hown' hgr'
    have hbl : Below w.heap.size w wa := Below.grown ((Below.refl _ _).alloc (Nat.le_refl _) _) hgr' (by simp) (by simp [Value.ownBlock])
    obtain ⟨ao', c', rfl⟩ := own_form hown'
    have hrow := Row.of_own hown'
    rcases hrow with h0 | ⟨g, cs0, t0, rfl, hg1, hg2, hw0, hv0⟩
    · have := congrArg List.length h0; simp [il, HN.out] at this; omega
    have hv1 : Cellsd cs0 X := fun k hk => by rw [hv0 k (by simpa [il] using hk), il_get _ _ hk]
    have H0 := Lib.hid (And.intro hbl (And.intro hw0 hv1))
    clear hbl hown' hgr' hw0 hv0 hv1 hg2
    go_wp2
    go_loopw [4] (fun iv wr => ∃ (i : Nat) (L : List Int) (cs : Array Value), 1 ≤ i ∧ i ≤ n ∧ iv = .int .i64 (i : Int) ∧ L.Perm X ∧ L.length = n ∧ Srt L i ∧ Below w.heap.size w wr ∧ Whole wr g t0 cs ∧ Cellsd cs L) (fun iv _ => n - (intOf iv).toNat)
    case atStart => exact ⟨1, X, cs0, Nat.le_refl _, h1, rfl, List.Perm.refl _, HN.out, fun a b h2 h3 => by omega, H0.out.1, H0.out.2.1, H0.out.2.2⟩
    case round =>
      rename World => wo
      obtain ⟨i, L, cs, hi1, hi, rfl, hperm, hLn, hsrt, hbel, hwh, hcs⟩ := hrel
      have H := Lib.hid (And.intro hperm (And.intro hLn (And.intro hsrt (And.intro hbel (And.intro hwh hcs)))))
      clear hperm hLn hsrt hbel hwh hcs
      by_cases hlt : i < n
      · go_wp2
        go_loopw [5] (fun kv wr => ∃ (k : Nat) (L : List Int) (cs : Array Value), k ≤ i ∧ kv = .int .i64 (k : Int) ∧ L.Perm X ∧ L.length = n ∧ Ins L i k ∧ Below w.heap.size w wr ∧ Whole wr g t0 cs ∧ Cellsd cs L) (fun kv _ => (intOf kv).toNat)
        case atStart => exact ⟨i, L, cs, Nat.le_refl _, rfl, H.out.1, H.out.2.1, Ins.start H.out.2.2.1, H.out.2.2.2⟩
        case round =>
          obtain ⟨k, L2, cs2, hk, rfl, hperm, hLn, hins, hbel, hwh, hcs⟩ := hrel
          have H2 := Lib.hid (And.intro hperm (And.intro hLn (And.intro hins (And.intro hbel (And.intro hwh hcs)))))
          have hgz := hwh.lt
          clear H
          by_cases hk0 : k = 0
          · have HD := Lib.hid (hins.done hk (.inl hk0))
            subst hk0
            clear hperm hLn hins hbel hwh hcs
            go_wp2
            go_quiet (fail)
            go_wp2
            go_roundw
            case rel => exact ⟨i + 1, L2, cs2, by omega, by omega, by go_num, H2.out.1, H2.out.2.1, HD.out, Bel_drewN H2.out.2.2.2.1 _, H2.out.2.2.2.2⟩
            case measure => simp [intOf]; omega
          · obtain ⟨j, hj⟩ : ∃ j, k = j + 1 := ⟨k - 1, by omega⟩
            have hkj : (k : Int) - 1 = j := by omega
            have hkp : 0 < k := by omega
            have hkn : k < n := by omega
            have hjn : j < n := by omega
            have hck : wr.cell? ⟨g, k, none⟩ = some (.int .i64 (L2[k]?.getD 0)) := by rw [hwh.cell]; exact hcs k (by omega)
            have hcj : wr.cell? ⟨g, j, none⟩ = some (.int .i64 (L2[j]?.getD 0)) := by rw [hwh.cell]; exact hcs j (by omega)
            have hfk := hwh.frozen k
            have hfj := hwh.frozen j
            have hne : k ≠ j := by omega
            have hj1 : k - 1 = j := by omega
            by_cases hc : L2[k]?.getD 0 < L2[j]?.getD 0
            · have HST := Lib.hid (hins.step (by omega) hk (by omega) (by rw [hj1]; exact hc))
              have HCS := Lib.hid (Cellsd.swp hcs hj (by omega))
              have HPM := Lib.hid ((swp_perm L2 k (by omega) (by omega)).trans hperm)
              have HLE := Lib.hid ((swp_len L2 k).trans hLn)
              have HJ := Lib.hid hj1
              obtain ⟨x, ex⟩ : ∃ x, x = L2[k]?.getD 0 := ⟨_, rfl⟩
              obtain ⟨y, ey⟩ : ∃ y, y = L2[j]?.getD 0 := ⟨_, rfl⟩
              rw [← ex, ← ey] at HCS
              rw [← ex] at hck hc
              rw [← ey] at hcj hc
              have HJJ := Lib.hid hj
              clear ex ey hperm hLn hins hbel hwh hcs hj1 hj
              go_wp2
              go_quiet (fail)
              go_wp2
              go_roundw
              case rel => exact ⟨j, swp L2 k, _, by have := HJJ.out; omega, rfl, HPM.out, HLE.out, by have := HST.out; rwa [HJ.out] at this, by repeat (first | with_reducible exact H2.out.2.2.2.1 | with_reducible refine Bel_drewN ?_ _ | with_reducible refine Below.setCell ?_ (by first | omega | (simp; done) | (simp; omega)) _), ((H2.out.2.2.2.2.1.drewN _).put k _).put j _, HCS.out⟩
              case measure => simp [intOf]; have := HJJ.out; omega
            · have HD := Lib.hid (hins.done hk (.inr (by rw [hj1]; omega)))
              obtain ⟨x, ex⟩ : ∃ x, x = L2[k]?.getD 0 := ⟨_, rfl⟩
              obtain ⟨y, ey⟩ : ∃ y, y = L2[j]?.getD 0 := ⟨_, rfl⟩
              rw [← ex] at hck hc
              rw [← ey] at hcj hc
              have hc' : y ≤ x := by omega
              clear ex ey hperm hLn hins hbel hwh hcs hj1 hc hj
              go_wp2
              go_quiet (fail)
              go_wp2
              go_roundw
              case rel => exact ⟨i + 1, L2, cs2, by omega, by omega, by go_num, H2.out.1, H2.out.2.1, HD.out, Bel_drewN H2.out.2.2.2.1 _, H2.out.2.2.2.2⟩
              case measure => simp [intOf]; omega
      · have E : Hid (i = n) := Lib.hid (by omega)
        go_wp2
        go_ret
        obtain ⟨q1, q2, q3, q4, q5, q6⟩ := H.out
        refine ⟨L, q1, by rw [q2, ← E.out]; exact q3, _, _, rfl, .inr ⟨g, cs, t0, rfl, hg1, q5.lt, q5, fun a ha => ?_⟩, q4⟩
        have ha' : a < L.length := by simpa [il] using ha
        rw [q6 a ha', il_get _ _ ha']
end Go.Proofs.Ytdmbhnllebipjab
