/- The sine of some turns: what the code and its model return. -/
import Derived.Test.YticmnkgcolgpaaaNum
import Derived.Test.YticmnkgcolgpaaaSine
import Derived.LoopTactic
import Derived.Below
namespace Go.Proofs.Yticmnkgcolgpaaa
open Go Go.RowKit Fl

def ONE : Nat := 4607182418800017408
def HALF : Nat := 4602678819172646912
def QUART : Nat := 4598175219545276416
def TURN : Nat := 4618760256179416344

def NumW (v : Option Nat) (w : World) (e : Ending) (w' : World) : Prop := ∃ r n, e = .returned (.float .f64 r) ∧ Fv .f64 v r ∧ w' = w.drewN n

/-- What is left behind the point. -/
def fr0 (b : Nat) (n : Int) : Option Nat := aop .sub .f64 (some b) (some (floatOfInt .f64 n))
def fr1 (v : Option Nat) : Option Nat := if (aord .f64 v (some 0) == some Ordering.lt) = true then aop .add .f64 v (some ONE) else v
def foldT (f : Option Nat) : Bool := aord .f64 f (some HALF) == some Ordering.gt || aord .f64 f (some HALF) == some Ordering.eq
def fold1 (f : Option Nat) : Option Nat := if foldT f = true then aop .sub .f64 f (some HALF) else f
def fold2 (f : Option Nat) : Option Nat := if (aord .f64 f (some QUART) == some Ordering.gt) = true then aop .sub .f64 (some HALF) f else f
def polyA (u : Option Nat) : Nat → Option Nat
  | 0 => some ONE
  | j + 1 => aop .sub .f64 (some ONE) (aop .quo .f64 (aop .mul .f64 u (polyA u j)) (av .f64 (floatOfInt .f64 (2 * (8 - (j : Int)) * (2 * (8 - (j : Int)) + 1)))))
def negA (k : FloatKind) (v : Option Nat) : Option Nat := v.map (Op.negFloat k)
def sineA (f : Option Nat) : Option Nat :=
  let z := aop .mul .f64 (fold2 (fold1 f)) (some TURN)
  let r := aop .mul .f64 z (polyA (aop .mul .f64 z z) 8)
  if foldT f = true then negA .f64 r else r

theorem av_one : av .f64 4607182418800017408 = some ONE := by decide
theorem av_half : av .f64 4602678819172646912 = some HALF := by decide
theorem av_quart : av .f64 4598175219545276416 = some QUART := by decide
theorem av_turn : av .f64 4618760256179416344 = some TURN := by decide
theorem P2_one : P2 0 (some ONE) := ⟨_, rfl, by decide⟩
theorem P2_half : P2 0 (some HALF) := ⟨_, rfl, by decide⟩
theorem P2_turn : P2 3 (some TURN) := ⟨_, rfl, by decide⟩

theorem aord_some {a b : Nat} {v : Option Nat} (h : av .f64 a = v) : FloatKind.f64.format.order a b = aord .f64 v (av .f64 b) := by rw [aord_order, h]

theorem fr1_in {v : Option Nat} (h : P2 0 v) : P2 1 (fr1 v) := by
  unfold fr1
  split
  · exact h.add P2_one (Nat.le_refl _) (Nat.le_refl _) (by omega)
  · exact h.mono (by omega)
theorem fold1_in {v : Option Nat} (h : P2 1 v) : P2 2 (fold1 v) := by
  unfold fold1
  split
  · exact h.sub P2_half (Nat.le_refl _) (by omega) (by omega)
  · exact h.mono (by omega)
theorem fold2_in {v : Option Nat} (h : P2 2 v) : P2 3 (fold2 v) := by
  unfold fold2
  split
  · exact P2_half.sub h (by omega) (Nat.le_refl _) (by omega)
  · exact h.mono (by omega)

theorem div_const (j : Nat) (hj : j < 8) : ∃ n d, av .f64 (floatOfInt .f64 (2 * (8 - (j : Int)) * (2 * (8 - (j : Int)) + 1))) = some (floatOfInt .f64 (2 * (8 - (j : Int)) * (2 * (8 - (j : Int)) + 1))) ∧
    Ieee.double.read (floatOfInt .f64 (2 * (8 - (j : Int)) * (2 * (8 - (j : Int)) + 1))) = .number false n (-((d : Nat) : Int)) ∧ 2 ^ d ≤ n ∧ n.log2 ≤ 52 := by
  have : j = 0 ∨ j = 1 ∨ j = 2 ∨ j = 3 ∨ j = 4 ∨ j = 5 ∨ j = 6 ∨ j = 7 := by omega
  rcases this with rfl | rfl | rfl | rfl | rfl | rfl | rfl | rfl
  · exact ⟨272 <<< 44, 44, by decide +kernel, by decide +kernel, by decide +kernel, by decide +kernel⟩
  · exact ⟨210 <<< 45, 45, by decide +kernel, by decide +kernel, by decide +kernel, by decide +kernel⟩
  · exact ⟨156 <<< 45, 45, by decide +kernel, by decide +kernel, by decide +kernel, by decide +kernel⟩
  · exact ⟨110 <<< 46, 46, by decide +kernel, by decide +kernel, by decide +kernel, by decide +kernel⟩
  · exact ⟨72 <<< 46, 46, by decide +kernel, by decide +kernel, by decide +kernel, by decide +kernel⟩
  · exact ⟨42 <<< 47, 47, by decide +kernel, by decide +kernel, by decide +kernel, by decide +kernel⟩
  · exact ⟨20 <<< 48, 48, by decide +kernel, by decide +kernel, by decide +kernel, by decide +kernel⟩
  · exact ⟨6 <<< 50, 50, by decide +kernel, by decide +kernel, by decide +kernel, by decide +kernel⟩

theorem polyA_in {u : Option Nat} (hu : P2 12 u) : ∀ j, j ≤ 8 → P2 (13 * j) (polyA u j) := by
  intro j
  induction j with
  | zero => intro _; exact P2_one
  | succ j ih =>
    intro hj
    obtain ⟨n, d, e1, e2, e3, e4⟩ := div_const j (by omega)
    have h1 := hu.mul (ih (by omega)) (by omega)
    have h2 := h1.quo (by omega) e2 e3 e4
    have h3 := P2_one.sub h2 (Nat.zero_le _) (Nat.le_refl _) (by omega)
    show P2 _ (aop .sub .f64 (some ONE) (aop .quo .f64 (aop .mul .f64 u (polyA u j)) (av .f64 _)))
    rw [e1]
    exact h3.mono (by omega)

theorem neg_mod (k : FloatKind) (b : Nat) : Op.negFloat k b % k.format.signWeight = b % k.format.signWeight := by
  unfold Op.negFloat Ieee.Format.signWeight
  rw [Nat.xor_mod_two_pow, Nat.mod_self, Nat.xor_zero]
theorem neg_lt (k : FloatKind) (b : Nat) (h : b < 2 ^ k.format.width) : Op.negFloat k b < 2 ^ k.format.width := by
  unfold Op.negFloat
  exact Nat.xor_lt_two_pow h (Nat.pow_lt_pow_right (by omega) (by unfold Ieee.Format.width; omega))
theorem neg_nan (k : FloatKind) (b : Nat) : (k.format.read (Op.negFloat k b)).isNaN = (k.format.read b).isNaN := by
  unfold Ieee.Format.read
  simp only [neg_mod]
  split
  · rfl
  · split
    · rfl
    · split <;> rfl
@[go_sem] theorem unary_neg_float (k : FloatKind) (b : Nat) : Op.unary .neg (.float k b) = pure (.float k (Op.negFloat k b)) := rfl
/-- '-x'. -/
theorem Fv_neg {k : FloatKind} {v : Option Nat} {b : Nat} (h : Fv k v b) : Fv k (negA k v) (Op.negFloat k b) := by
  refine ⟨neg_lt k b h.1, ?_⟩
  have e := h.2
  unfold av at e ⊢
  rw [neg_nan]
  split at e
  · rename_i hn; rw [if_pos hn, ← e]; rfl
  · rename_i hn; rw [if_neg hn, ← e]; rfl
theorem P2_neg {B : Nat} {v : Option Nat} (h : P2 B v) : P2 B (negA .f64 v) := by
  obtain ⟨b, rfl, hb⟩ := h
  exact ⟨_, rfl, by rw [neg_mod]; exact hb⟩

/-- The sine does not pass 2^110. -/
theorem sineA_in {f : Option Nat} (h : P2 1 f) : P2 110 (sineA f) := by
  have g := fold2_in (fold1_in h)
  have z := g.mul P2_turn (by omega)
  have u : P2 12 (aop .mul .f64 (aop .mul .f64 (fold2 (fold1 f)) (some TURN)) (aop .mul .f64 (fold2 (fold1 f)) (some TURN))) := (z.mul z (by omega)).mono (by omega)
  have q : P2 104 _ := (polyA_in u 8 (by omega)).mono (by omega)
  have r := z.mul q (by omega)
  unfold sineA
  simp only []
  split
  · exact P2_neg (r.mono (by omega))
  · exact r.mono (by omega)

/-- A finite 64-bit number of less than 2^52: its integer part, and what is left. -/
structure Small (b : Nat) (n : Int) (c : Nat) : Prop where
  av : av .f64 b = some b
  int : (Ieee.double.read b).toInt .zero = some n
  abs : n.natAbs < 4503599627370496
  rest : aop .sub .f64 (Fl.av .f64 b) (Fl.av .f64 (floatOfInt .f64 n)) = some c
  p2 : P2 0 (some c)
  avc : Fl.av .f64 c = some c

theorem small_of (b : Nat) (s : Bool) (m : Nat) (i : Int) (hb : Ieee.double.read b = .number s m i) (hi : -1074 ≤ i) (hlt : val m i < 2 ^ (52 + K0)) : ∃ n c, Small b n c := by
  obtain ⟨h1, h2⟩ := frac_in b s m i hb hi hlt
  obtain ⟨c, hc, hR⟩ := h2
  have hav : av .f64 b = some b := av_some (k := .f64) (by show (Ieee.double.read b).isNaN = false; rw [hb]; rfl)
  obtain ⟨M, P, e1, _, _⟩ := read_floatOfInt _ h1
  have havn : av .f64 (floatOfInt .f64 (Ieee.signed s (truncN m i) 0)) = some (floatOfInt .f64 (Ieee.signed s (truncN m i) 0)) := av_some (k := .f64) (by show (Ieee.double.read _).isNaN = false; rw [e1]; rfl)
  refine ⟨_, c, hav, by rw [hb]; exact toInt_trunc s m i, h1, by rw [hav, havn]; exact hc, ⟨c, rfl, hR⟩, ?_⟩
  exact av_some (k := .f64) (bop_notNaN (op := .sub) hc)

theorem fin2 {op : BinOp} {a b r : Nat} {u v : Option Nat} (hr : Fv .f64 (aop op .f64 (av .f64 a) (av .f64 b)) r) (ha : av .f64 a = u) (hb : av .f64 b = v) : Fv .f64 (aop op .f64 u v) r := by rw [← ha, ← hb]; exact hr

set_option maxRecDepth 100000 in
set_option maxHeartbeats 400000 in
theorem fractionOf_any (b : Nat) (n : Int) (c : Nat) (h : Small b n c) (w : World) : Calls Try.prog 53 #[.float .f64 b] w (NumW (fr1 (some c)) w) := by
  have HI := Lib.hid h.int
  have HA := Lib.hid h.abs
  have HR := Lib.hid h.rest
  have HC := Lib.hid h.avc
  clear h
  cases hl : (FloatKind.f64.format.order c 0 == some Ordering.lt) with
  | true =>
    have HF := Lib.hid (show fr1 (some c) = aop .add .f64 (some c) (some ONE) by
      unfold fr1; rw [if_pos]; exact hl)
    go_enter Try.func53, Try.ntmps53
    go_wp2_with (first | (refine wpList_toint _ _ _ _ n rfl Try.underlying22 Try.underlying2 HI.out HA.out ?_) | (refine wpList_farith _ _ _ _ _ .f64 _ _ rfl rfl rfl ?_; intro r n hr; first | (obtain rfl := av_eq (hr.2.trans HR.out)) | skip))
    go_ret
    exact ⟨_, _, rfl, by rw [HF.out]; exact fin2 (by assumption) HC.out av_one, rfl⟩
  | false =>
    have HF := Lib.hid (show fr1 (some c) = some c by
      unfold fr1
      have : (aord .f64 (some c) (some 0) == some Ordering.lt) = false := hl
      rw [this]; rfl)
    go_enter Try.func53, Try.ntmps53
    go_wp2_with (first | (refine wpList_toint _ _ _ _ n rfl Try.underlying22 Try.underlying2 HI.out HA.out ?_) | (refine wpList_farith _ _ _ _ _ .f64 _ _ rfl rfl rfl ?_; intro r n hr; first | (obtain rfl := av_eq (hr.2.trans HR.out)) | skip))
    go_ret
    exact ⟨_, _, rfl, by rw [HF.out]; exact ⟨hr.1, HC.out⟩, rfl⟩

theorem aop_av {op : BinOp} {k : FloatKind} {u v : Option Nat} {r : Nat} (h : aop op k u v = some r) : av k r = some r := by
  cases u with
  | none => cases v <;> cases h
  | some x =>
    cases v with
    | none => cases h
    | some y => exact av_some (bop_notNaN (op := op) h)

/-- The steps of a sine, each a word. 't': is it turned; 'g': is it folded. -/
structure Steps (f : Option Nat) (t g : Bool) (c0 c1 c2 cz cu : Nat) : Prop where
  f0 : f = some c0
  a0 : av .f64 c0 = some c0
  t1 : (FloatKind.f64.format.order c0 4602678819172646912 == some Ordering.gt || FloatKind.f64.format.order c0 4602678819172646912 == some Ordering.eq) = t
  s1 : t = true → aop .sub .f64 (av .f64 c0) (av .f64 4602678819172646912) = some c1
  n1 : t = false → c1 = c0
  t2 : (FloatKind.f64.format.order c1 4598175219545276416 == some Ordering.gt) = g
  s2 : g = true → aop .sub .f64 (av .f64 4602678819172646912) (av .f64 c1) = some c2
  n2 : g = false → c2 = c1
  z : aop .mul .f64 (av .f64 c2) (av .f64 4618760256179416344) = some cz
  u : aop .mul .f64 (av .f64 cz) (av .f64 cz) = some cu
  az : av .f64 cz = some cz
  sine : sineA f = if t = true then negA .f64 (aop .mul .f64 (some cz) (polyA (some cu) 8)) else aop .mul .f64 (some cz) (polyA (some cu) 8)
  p2 : P2 12 (some cu)

theorem fr1_av {c : Nat} (hc : av .f64 c = some c) (h : P2 0 (some c)) : ∃ c0, fr1 (some c) = some c0 ∧ av .f64 c0 = some c0 := by
  obtain ⟨c0, h0⟩ := (fr1_in h).has
  refine ⟨c0, h0, ?_⟩
  unfold fr1 at h0
  split at h0
  · exact aop_av h0
  · cases h0; exact hc

theorem steps_of {f : Option Nat} {c0 : Nat} (hf : f = some c0) (a0 : av .f64 c0 = some c0) (h : P2 1 f) : ∃ t g c1 c2 cz cu, Steps f t g c0 c1 c2 cz cu := by
  subst hf
  have g1 := fold1_in h
  have g2 := fold2_in g1
  have z := g2.mul P2_turn (by omega)
  have u : P2 12 (aop .mul .f64 (aop .mul .f64 (fold2 (fold1 (some c0))) (some TURN)) (aop .mul .f64 (fold2 (fold1 (some c0))) (some TURN))) := (z.mul z (by omega)).mono (by omega)
  obtain ⟨c1, e1⟩ := g1.has
  obtain ⟨c2, e2⟩ := g2.has
  obtain ⟨cz, ez⟩ := z.has
  obtain ⟨cu, eu⟩ := u.has
  have a1 : av .f64 c1 = some c1 := by
    unfold fold1 at e1; split at e1
    · exact aop_av e1
    · cases e1; exact a0
  have a2 : av .f64 c2 = some c2 := by
    rw [e1] at e2
    unfold fold2 at e2; split at e2
    · exact aop_av e2
    · cases e2; exact a1
  have az := aop_av ez
  rw [e2] at ez
  have hu := u
  rw [e2, ez] at eu hu
  rw [eu] at hu
  refine ⟨_, _, c1, c2, cz, cu, rfl, a0, rfl, ?_, ?_, rfl, ?_, ?_, by rw [a2, av_turn]; exact ez, by rw [az]; exact eu, az, ?_, hu⟩
  · intro ht
    have ht' : foldT (some c0) = true := ht
    unfold fold1 at e1; rw [if_pos ht'] at e1
    rw [a0, av_half]; exact e1
  · intro ht
    have ht' : ¬ foldT (some c0) = true := by rw [show foldT (some c0) = false from ht]; exact Bool.false_ne_true
    unfold fold1 at e1; rw [if_neg ht'] at e1
    exact (Option.some.inj e1).symm
  · intro hg
    rw [e1] at e2
    have hg' : (aord .f64 (some c1) (some QUART) == some Ordering.gt) = true := hg
    unfold fold2 at e2; rw [if_pos hg'] at e2
    rw [a1, av_half]; exact e2
  · intro hg
    rw [e1] at e2
    have hg' : ¬ (aord .f64 (some c1) (some QUART) == some Ordering.gt) = true := by rw [show (aord .f64 (some c1) (some QUART) == some Ordering.gt) = false from hg]; exact Bool.false_ne_true
    unfold fold2 at e2; rw [if_neg hg'] at e2
    exact (Option.some.inj e2).symm
  · show sineA (some c0) = _
    unfold sineA
    simp only []
    rw [e2, ez, eu]
    rfl

theorem step_close {j : Nat} {cu rp r1 r2 r3 : Nat} {c : Nat} (hu : av .f64 cu = some cu) (hp : Fv .f64 (polyA (some cu) j) rp) (ha : Fv .f64 (aop .mul .f64 (av .f64 cu) (av .f64 rp)) r1)
    (hb : Fv .f64 (aop .quo .f64 (av .f64 r1) (av .f64 c)) r2) (hc : Fv .f64 (aop .sub .f64 (av .f64 4607182418800017408) (av .f64 r2)) r3) (hcc : c = floatOfInt .f64 (2 * (8 - (j : Int)) * (2 * (8 - (j : Int)) + 1))) : Fv .f64 (polyA (some cu) (j + 1)) r3 := by
  rw [hb.2, ha.2, hu, hp.2, av_one, hcc] at hc
  exact hc

theorem wrap_steps (j : Nat) (h : j < 8) : IntKind.i64.wrap (2 * (8 - (j : Int)) * (2 * (8 - (j : Int)) + 1)) = 2 * (8 - (j : Int)) * (2 * (8 - (j : Int)) + 1) := by
  have : j = 0 ∨ j = 1 ∨ j = 2 ∨ j = 3 ∨ j = 4 ∨ j = 5 ∨ j = 6 ∨ j = 7 := by omega
  rcases this with rfl | rfl | rfl | rfl | rfl | rfl | rfl | rfl <;> decide

set_option maxRecDepth 100000 in
set_option maxHeartbeats 6400000 in
theorem wideSine_any (b : Nat) (n : Int) (c : Nat) (h : Small b n c) (w : World) : Calls Try.prog 54 #[.float .f64 b] w (NumW (sineA (fr1 (some c))) w) := by
  obtain ⟨c0, h0, a0⟩ := fr1_av h.avc h.p2
  obtain ⟨t, g, c1, c2, cz, cu, S⟩ := steps_of h0 a0 (fr1_in h.p2)
  have HH := Lib.hid h
  have HU := Lib.hid (aop_av S.u)
  have H0 := Lib.hid h0
  clear h h0 a0
  cases t <;> cases g
  · obtain rfl := S.n1 rfl
    obtain rfl := S.n2 rfl
    have HS := Lib.hid S
    have ht := S.t1
    have hg := S.t2
    clear S
    go_enter Try.func54, Try.ntmps54
    go_wp2_with fail
    refine (fractionOf_any b n c HH.out _).mono ?_
    rw [H0.out]
    rintro e w' ⟨r0, n0, rfl, hr0, rfl⟩
    obtain rfl := (av_eq hr0.2).symm
    clear hr0
    go_wp2_with (refine wpList_farith _ _ _ _ _ .f64 _ _ rfl rfl rfl ?_; intro r n hr; first | (obtain rfl := (av_eq (hr.2.trans HS.out.z)).symm) | (obtain rfl := (av_eq (hr.2.trans HS.out.u)).symm))
    go_loopw [7, 8] (fun p k wr => ∃ j : Nat, j ≤ 8 ∧ k = .int .i64 (8 - (j : Int)) ∧ ∃ r q, p = .float .f64 r ∧ Fv .f64 (polyA (some cu) j) r ∧ wr = w.drewN q) (fun _ k _ => (intOf k).toNat)
    case atStart => exact ⟨0, by omega, rfl, _, _, rfl, ⟨by decide, av_one⟩, rfl⟩
    case round =>
      obtain ⟨j, hj, rfl, rp, q, rfl, hp, rfl⟩ := hrel
      have HP := Lib.hid hp
      clear hp
      by_cases hlt : j < 8
      · have hk1 : (1 : Int) ≤ 8 - (j : Int) := by omega
        have hmul := wrap_steps j hlt
        clear hj
        go_wp2_with (refine wpList_farith _ _ _ _ _ .f64 _ _ rfl rfl rfl ?_; intro r n hr)
        go_roundw
        case rel => exact ⟨j + 1, by omega, by go_num, _, _, rfl, step_close HU.out HP.out (by assumption) (by assumption) (by assumption) rfl, rfl⟩
        case measure => simp [intOf]; omega
      · obtain rfl : j = 8 := by omega
        clear hlt hj
        go_wp2_with (refine wpList_farith _ _ _ _ _ .f64 _ _ rfl rfl rfl ?_; intro r n hr)
        go_ret
        exact ⟨_, _, rfl, by rw [HS.out.sine]; exact fin2 (by assumption) HS.out.az HP.out.2, rfl⟩
  · obtain rfl := S.n1 rfl
    have h2 := Lib.hid (S.s2 rfl)
    have HS := Lib.hid S
    have ht := S.t1
    have hg := S.t2
    clear S
    go_enter Try.func54, Try.ntmps54
    go_wp2_with fail
    refine (fractionOf_any b n c HH.out _).mono ?_
    rw [H0.out]
    rintro e w' ⟨r0, n0, rfl, hr0, rfl⟩
    obtain rfl := (av_eq hr0.2).symm
    clear hr0
    go_wp2_with (refine wpList_farith _ _ _ _ _ .f64 _ _ rfl rfl rfl ?_; intro r n hr; first | (obtain rfl := (av_eq (hr.2.trans h2.out)).symm) | (obtain rfl := (av_eq (hr.2.trans HS.out.z)).symm) | (obtain rfl := (av_eq (hr.2.trans HS.out.u)).symm))
    go_loopw [7, 8] (fun p k wr => ∃ j : Nat, j ≤ 8 ∧ k = .int .i64 (8 - (j : Int)) ∧ ∃ r q, p = .float .f64 r ∧ Fv .f64 (polyA (some cu) j) r ∧ wr = w.drewN q) (fun _ k _ => (intOf k).toNat)
    case atStart => exact ⟨0, by omega, rfl, _, _, rfl, ⟨by decide, av_one⟩, rfl⟩
    case round =>
      obtain ⟨j, hj, rfl, rp, q, rfl, hp, rfl⟩ := hrel
      have HP := Lib.hid hp
      clear hp
      by_cases hlt : j < 8
      · have hk1 : (1 : Int) ≤ 8 - (j : Int) := by omega
        have hmul := wrap_steps j hlt
        clear hj
        go_wp2_with (refine wpList_farith _ _ _ _ _ .f64 _ _ rfl rfl rfl ?_; intro r n hr)
        go_roundw
        case rel => exact ⟨j + 1, by omega, by go_num, _, _, rfl, step_close HU.out HP.out (by assumption) (by assumption) (by assumption) rfl, rfl⟩
        case measure => simp [intOf]; omega
      · obtain rfl : j = 8 := by omega
        clear hlt hj
        go_wp2_with (refine wpList_farith _ _ _ _ _ .f64 _ _ rfl rfl rfl ?_; intro r n hr)
        go_ret
        exact ⟨_, _, rfl, by rw [HS.out.sine]; exact fin2 (by assumption) HS.out.az HP.out.2, rfl⟩
  · have h1 := Lib.hid (S.s1 rfl)
    obtain rfl := S.n2 rfl
    have HS := Lib.hid S
    have ht := S.t1
    have hg := S.t2
    clear S
    go_enter Try.func54, Try.ntmps54
    go_wp2_with fail
    refine (fractionOf_any b n c HH.out _).mono ?_
    rw [H0.out]
    rintro e w' ⟨r0, n0, rfl, hr0, rfl⟩
    obtain rfl := (av_eq hr0.2).symm
    clear hr0
    go_wp2_with (refine wpList_farith _ _ _ _ _ .f64 _ _ rfl rfl rfl ?_; intro r n hr; first | (obtain rfl := (av_eq (hr.2.trans h1.out)).symm) | (obtain rfl := (av_eq (hr.2.trans HS.out.z)).symm) | (obtain rfl := (av_eq (hr.2.trans HS.out.u)).symm))
    go_loopw [7, 8] (fun p k wr => ∃ j : Nat, j ≤ 8 ∧ k = .int .i64 (8 - (j : Int)) ∧ ∃ r q, p = .float .f64 r ∧ Fv .f64 (polyA (some cu) j) r ∧ wr = w.drewN q) (fun _ k _ => (intOf k).toNat)
    case atStart => exact ⟨0, by omega, rfl, _, _, rfl, ⟨by decide, av_one⟩, rfl⟩
    case round =>
      obtain ⟨j, hj, rfl, rp, q, rfl, hp, rfl⟩ := hrel
      have HP := Lib.hid hp
      clear hp
      by_cases hlt : j < 8
      · have hk1 : (1 : Int) ≤ 8 - (j : Int) := by omega
        have hmul := wrap_steps j hlt
        clear hj
        go_wp2_with (refine wpList_farith _ _ _ _ _ .f64 _ _ rfl rfl rfl ?_; intro r n hr)
        go_roundw
        case rel => exact ⟨j + 1, by omega, by go_num, _, _, rfl, step_close HU.out HP.out (by assumption) (by assumption) (by assumption) rfl, rfl⟩
        case measure => simp [intOf]; omega
      · obtain rfl : j = 8 := by omega
        clear hlt hj
        go_wp2_with (refine wpList_farith _ _ _ _ _ .f64 _ _ rfl rfl rfl ?_; intro r n hr)
        go_ret
        exact ⟨_, _, rfl, by rw [HS.out.sine]; exact Fv_neg (fin2 (by assumption) HS.out.az HP.out.2), rfl⟩
  · have h1 := Lib.hid (S.s1 rfl)
    have h2 := Lib.hid (S.s2 rfl)
    have HS := Lib.hid S
    have ht := S.t1
    have hg := S.t2
    clear S
    go_enter Try.func54, Try.ntmps54
    go_wp2_with fail
    refine (fractionOf_any b n c HH.out _).mono ?_
    rw [H0.out]
    rintro e w' ⟨r0, n0, rfl, hr0, rfl⟩
    obtain rfl := (av_eq hr0.2).symm
    clear hr0
    go_wp2_with (refine wpList_farith _ _ _ _ _ .f64 _ _ rfl rfl rfl ?_; intro r n hr; first | (obtain rfl := (av_eq (hr.2.trans h1.out)).symm) | (obtain rfl := (av_eq (hr.2.trans h2.out)).symm) | (obtain rfl := (av_eq (hr.2.trans HS.out.z)).symm) | (obtain rfl := (av_eq (hr.2.trans HS.out.u)).symm))
    go_loopw [7, 8] (fun p k wr => ∃ j : Nat, j ≤ 8 ∧ k = .int .i64 (8 - (j : Int)) ∧ ∃ r q, p = .float .f64 r ∧ Fv .f64 (polyA (some cu) j) r ∧ wr = w.drewN q) (fun _ k _ => (intOf k).toNat)
    case atStart => exact ⟨0, by omega, rfl, _, _, rfl, ⟨by decide, av_one⟩, rfl⟩
    case round =>
      obtain ⟨j, hj, rfl, rp, q, rfl, hp, rfl⟩ := hrel
      have HP := Lib.hid hp
      clear hp
      by_cases hlt : j < 8
      · have hk1 : (1 : Int) ≤ 8 - (j : Int) := by omega
        have hmul := wrap_steps j hlt
        clear hj
        go_wp2_with (refine wpList_farith _ _ _ _ _ .f64 _ _ rfl rfl rfl ?_; intro r n hr)
        go_roundw
        case rel => exact ⟨j + 1, by omega, by go_num, _, _, rfl, step_close HU.out HP.out (by assumption) (by assumption) (by assumption) rfl, rfl⟩
        case measure => simp [intOf]; omega
      · obtain rfl : j = 8 := by omega
        clear hlt hj
        go_wp2_with (refine wpList_farith _ _ _ _ _ .f64 _ _ rfl rfl rfl ?_; intro r n hr)
        go_ret
        exact ⟨_, _, rfl, by rw [HS.out.sine]; exact Fv_neg (fin2 (by assumption) HS.out.az HP.out.2), rfl⟩
end Go.Proofs.Yticmnkgcolgpaaa
