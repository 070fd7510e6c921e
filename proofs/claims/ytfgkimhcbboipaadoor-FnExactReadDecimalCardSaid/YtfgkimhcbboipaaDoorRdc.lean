/- Numbers read from decimal texts: both sides. -/
import Derived.Test.YtfgkimhcbboipaaDoorDec
import Derived.Test.YtfgkimhcbboipaaDoorLte
import Derived.Test.YtfgkimhcbboipaaDoorSp
import Derived.Lib.AtoiErrMem
import Derived.Lib.AtoiTie
import Derived.Lib.ParseIntBTie
import Derived.Lib.Strings
import Derived.WideShapes
namespace Go.Proofs.YtfgkimhcbboipaaDoor
open Go Go.RowKit
set_option linter.unusedVariables false
/-! ### A numeral is read back -/
theorem digit_val {d : Nat} (h : d < 10) : Lib.digitVal (UInt8.ofNat (48 + d)) = some d := by
  unfold Lib.digitVal
  rw [UInt8.toNat_ofNat']
  rw [if_pos (by omega)]
  congr 1
  omega
theorem decFrom_snoc (b : UInt8) : ∀ (l : List UInt8) (acc : Nat), Lib.decFrom acc (l ++ [b]) = (Lib.decFrom acc l).bind fun n => (Lib.digitVal b).map fun d => n * 10 + d
  | [], acc => by
    simp only [List.nil_append, Lib.decFrom]
    cases Lib.digitVal b <;> rfl
  | c :: l, acc => by
    simp only [List.cons_append, Lib.decFrom]
    cases Lib.digitVal c with
    | none => rfl
    | some d => exact decFrom_snoc b l _
theorem decFrom_digits (m : Nat) : Lib.decFrom 0 (Lib.decDigits m) = some m := by
  induction m using Nat.strongRecOn with
  | ind m ih =>
    rw [Lib.decDigits]
    by_cases h : m < 10
    · rw [dif_pos h]
      simp only [Lib.decFrom, digit_val h]
      congr 1; omega
    · rw [dif_neg h, decFrom_snoc, ih (m / 10) (by omega), digit_val (by omega)]
      show some (m / 10 * 10 + m % 10) = some m
      congr 1; omega
theorem digits_cons (m : Nat) : ∃ b r, Lib.decDigits m = b :: r ∧ 48 ≤ b.toNat ∧ b.toNat ≤ 57 := by
  cases e : Lib.decDigits m with
  | nil =>
    have := Lib.decDigits_length m
    rw [e] at this
    have h2 : Lib.nDigits m ≠ 0 := by rw [Lib.nDigits]; split <;> omega
    exact absurd this.symm h2
  | cons b r =>
    have h := decFrom_digits m
    rw [e] at h
    obtain ⟨d, hd⟩ := Lib.digit_of_decFrom _ _ _ h 0 b rfl
    have := Lib.digitVal_eq hd
    exact ⟨b, r, rfl, this.1, this.2.1⟩
theorem decNat_digits (m : Nat) : Lib.decNat (Lib.decDigits m) = some m := by
  obtain ⟨b, r, e, _⟩ := digits_cons m
  unfold Lib.decNat
  rw [if_neg (by rw [e]; simp), decFrom_digits]
theorem atoi_itoa (n : Int) : Lib.atoi (Lib.itoa n) = some n := by
  unfold Lib.itoa
  by_cases h : n < 0
  · rw [if_pos h]
    have e : ∀ l, Lib.atoi (45 :: l) = (Lib.decNat l).map fun (m : Nat) => -(m : Int) := fun l => rfl
    rw [e, decNat_digits]
    show some (-(n.natAbs : Int)) = some n
    congr 1; omega
  · rw [if_neg h]
    obtain ⟨b, r, e, h1, h2⟩ := digits_cons n.toNat
    have hd := decNat_digits n.toNat
    rw [e] at hd ⊢
    have n1 : (b == 45) = false := by rw [beq_eq_false_iff_ne]; intro h; rw [h] at h1; exact absurd h1 (by decide)
    have n2 : (b == 43) = false := by rw [beq_eq_false_iff_ne]; intro h; rw [h] at h1; exact absurd h1 (by decide)
    show (if b == 45 then _ else if b == 43 then _ else _) = _
    rw [n1, n2]
    show (Lib.decNat (b :: r)).map _ = _
    rw [hd]
    show some (n.toNat : Int) = some n
    congr 1; omega
theorem nDigits_le : ∀ (k m : Nat), m < 10 ^ (k + 1) → Lib.nDigits m ≤ k + 1
  | 0, m, h => by rw [Lib.nDigits, dif_pos (by omega)]; omega
  | k + 1, m, h => by
    rw [Lib.nDigits]
    split
    · omega
    · have := nDigits_le k (m / 10) (by rw [Nat.pow_succ] at h; omega)
      omega
def itemOk (n : Int) : Prop := -1000000000000000 ≤ n ∧ n ≤ 1000000000000000
theorem itoa_len17 {n : Int} (h : itemOk n) : 1 ≤ (Lib.itoa n).length ∧ (Lib.itoa n).length ≤ 17 := by
  have h1 : ∀ m : Nat, m ≤ 1000000000000000 → 1 ≤ (Lib.decDigits m).length ∧ (Lib.decDigits m).length ≤ 16 := fun m hm => by
    rw [Lib.decDigits_length]
    refine ⟨?_, nDigits_le 15 m (by omega)⟩
    rw [Lib.nDigits]; split <;> omega
  unfold Lib.itoa
  unfold itemOk at h
  split
  · have := h1 n.natAbs (by omega)
    rw [List.length_cons]; omega
  · have := h1 n.toNat (by omega)
    omega
theorem parse_itoa {n : Int} (h : itemOk n) : Lib.parseIntB 64 (Lib.itoa n) = .ok n := by
  rw [Lib.parseIntB_64, Lib.atoiAll_short _ (by have := (itoa_len17 h).2; omega), atoi_itoa]
  rfl
/-- The text is that of a number that is not too great. -/
def isDec (s : ByteArray) (n : Int) : Prop := itemOk n ∧ s = ⟨(Lib.itoa n).toArray⟩
theorem isDec.list {s : ByteArray} {n : Int} (h : isDec s n) : s.data.toList = Lib.itoa n := by rw [h.2]
/-! ### The model's way -/
def vstep (n : Nat) (b : UInt8) : Nat := if 48 ≤ b.toNat ∧ b.toNat ≤ 57 then 10 * n + (b.toNat - 48) else n
def vl (l : List UInt8) : Nat := l.foldl vstep 0
theorem vl_snoc (l : List UInt8) (b : UInt8) : vl (l ++ [b]) = vstep (vl l) b := by simp [vl]
theorem vl_lt (l : List UInt8) : ∀ acc k : Nat, acc < 10 ^ k → l.foldl vstep acc < 10 ^ (k + l.length) := by
  induction l with
  | nil => intro acc k h; exact h
  | cons b l ih =>
    intro acc k h
    have h1 : vstep acc b < 10 ^ (k + 1) := by
      have hp : 10 ^ (k + 1) = 10 ^ k * 10 := Nat.pow_succ ..
      unfold vstep
      split <;> omega
    have := ih (vstep acc b) (k + 1) h1
    rw [List.length_cons, show k + (l.length + 1) = k + 1 + l.length by omega]
    exact this
theorem vl_dec : ∀ (l : List UInt8) (acc n : Nat), Lib.decFrom acc l = some n → l.foldl vstep acc = n
  | [], acc, n, h => by injection h
  | b :: l, acc, n, h => by
    simp only [Lib.decFrom] at h
    cases hd : Lib.digitVal b with
    | none => rw [hd] at h; cases h
    | some d =>
      rw [hd] at h
      have h1 := Lib.digitVal_eq hd
      have e : vstep acc b = acc * 10 + d := by unfold vstep; rw [if_pos ⟨h1.1, h1.2.1⟩]; omega
      show l.foldl vstep (vstep acc b) = n
      rw [e]
      exact vl_dec l _ _ h
/-- The number that the model makes of a text. -/
def vS (l : List UInt8) : Int := if l.head? = some 45 then -(vl l : Int) else vl l
theorem vS_itoa (n : Int) : vS (Lib.itoa n) = n := by
  unfold vS Lib.itoa
  by_cases h : n < 0
  · rw [if_pos h, if_pos (show (45 :: Lib.decDigits n.natAbs).head? = some 45 from rfl)]
    have e : vl (45 :: Lib.decDigits n.natAbs) = n.natAbs := by
      show (Lib.decDigits n.natAbs).foldl vstep (vstep 0 45) = _
      exact vl_dec _ _ _ (decFrom_digits _)
    rw [e]; omega
  · rw [if_neg h]
    obtain ⟨b, r, e, h1, h2⟩ := digits_cons n.toNat
    have hb : b ≠ 45 := fun h => by rw [h] at h1; exact absurd h1 (by decide)
    rw [if_neg (by rw [e]; simpa using hb), vl, vl_dec _ _ _ (decFrom_digits _)]
    omega
theorem str_ne {a b : ByteArray} (h : ¬ a = b) : (a.toList == b.toList) = false := by
  rw [beq_eq_false_iff_ne]
  intro he
  rw [Lib.toList_data, Lib.toList_data] at he
  exact h (WideShapes.bytes_inj he)
theorem take_snocB (s : ByteArray) (k : Nat) (h : k < s.size) : s.data.toList.take (k + 1) = s.data.toList.take k ++ [s[k]] := by
  rw [List.take_succ_eq_append_getElem (by simpa using h)]; rfl
theorem vl_17 (s : ByteArray) (k : Nat) (h : s.size ≤ 17) : vl (s.data.toList.take k) < 100000000000000000 := by
  have h1 := vl_lt (s.data.toList.take k) 0 0 (by decide)
  have h2 : (s.data.toList.take k).length ≤ 17 := by
    rw [List.length_take]
    have : s.data.toList.length = s.size := Array.length_toList
    omega
  have h3 : 10 ^ (0 + (s.data.toList.take k).length) ≤ 10 ^ 17 := Nat.pow_le_pow_right (by decide) (by omega)
  have h4 : (10 : Nat) ^ 17 = 100000000000000000 := by decide
  unfold vl
  omega
set_option maxRecDepth 100000 in
set_option maxHeartbeats 1000000 in
theorem l01Value_any (s : ByteArray) (hs : s.size ≤ 1048576) (w : World) :
    Calls Tryd.prog 59 #[.string s] w (fun e w' => ((∃ n, isDec s n ∧ e = .returned (.tuple #[.int .i64 n, .bool true])) ∨ ((¬ ∃ n, isDec s n) ∧ e = .returned (.tuple #[.int .i64 0, .bool false]))) ∧ Below w.heap.size w w') := by
  by_cases hlen : s.size < 1 ∨ 17 < s.size
  · have HN : Hid (¬ ∃ n, isDec s n) := Lib.hid (fun ⟨n, hn⟩ => by
      have h1 := itoa_len17 hn.1
      have h2 : s.size = (Lib.itoa n).length := by rw [hn.2]; show (Lib.itoa n).toArray.size = _; simp
      omega)
    rcases hlen with h | h
    · have h' : decide (s.size < 1) = true := decide_eq_true h
      have h0 : s.size = 0 := by omega
      go_enter Tryd.func59, Tryd.ntmps59
      go_wp2_with fail
      go_ret2
      exact ⟨.inr ⟨HN.out, rfl⟩, Below.refl _ _⟩
    · have h1 : ¬ s.size < 1 := by omega
      go_enter Tryd.func59, Tryd.ntmps59
      go_wp2_with fail
      go_ret2
      exact ⟨.inr ⟨HN.out, rfl⟩, Below.refl _ _⟩
  · have h1 : ¬ s.size < 1 := by omega
    have h17 : ¬ 17 < s.size := by omega
    clear hlen
    go_enter Tryd.func59, Tryd.ntmps59
    go_wp2_with fail
    go_loop [4, 5] (fun v i => ∃ k : Nat, k ≤ s.size ∧ i = .int .i64 k ∧ v = .int .i64 (vl (s.data.toList.take k) : Nat)) (fun _ i => s.size - (intOf i).toNat)
    case atStart => exact ⟨0, Nat.zero_le _, rfl, rfl⟩
    case round =>
      obtain ⟨k, hk, rfl, rfl⟩ := hrel
      have hv := vl_17 s k (by omega)
      by_cases hlt : k < s.size
      · have HS := Lib.hid (vl_snoc (s.data.toList.take k) s[k])
        have HT := Lib.hid (take_snocB s k hlt)
        have h256 : s[k].toNat < 256 := s[k].toNat_lt
        generalize vl (s.data.toList.take k) = v at *
        by_cases hd : 48 ≤ s[k].toNat ∧ s[k].toNat ≤ 57
        · have HV := Lib.hid (show vstep v s[k] = 10 * v + (s[k].toNat - 48) from by unfold vstep; rw [if_pos hd])
          obtain ⟨hd1, hd2⟩ := hd
          generalize hbb : s[k].toNat = b at *
          go_wp2_with fail
          go_round
          case rel => exact ⟨k + 1, by omega, by go_num, by rw [HT.out, HS.out, HV.out]; congr 1; omega⟩
          case measure => simp [intOf]; omega
        · have HV := Lib.hid (show vstep v s[k] = v from by unfold vstep; rw [if_neg hd])
          generalize hbb : s[k].toNat = b at *
          by_cases hd1 : 48 ≤ b
          · have hd2 : ¬ b ≤ 57 := fun h => hd ⟨hd1, h⟩
            clear hd
            go_wp2_with fail
            go_round
            case rel => exact ⟨k + 1, by omega, by go_num, by rw [HT.out, HS.out, HV.out]⟩
            case measure => simp [intOf]; omega
          · clear hd
            go_wp2_with fail
            go_round
            case rel => exact ⟨k + 1, by omega, by go_num, by rw [HT.out, HS.out, HV.out]⟩
            case measure => simp [intOf]; omega
      · obtain rfl : k = s.size := by omega
        have h0 : 0 < s.size := by omega
        have HA : Hid (s.data.toList.take s.size = s.data.toList) := Lib.hid (List.take_of_length_le (by rw [Array.length_toList]; exact Nat.le_refl _))
        rw [HA.out] at hv ⊢
        have HH : Hid (s.data.toList.head? = some s[0]) := Lib.hid (by rw [List.head?_eq_getElem?, Array.getElem?_toList]; exact Array.getElem?_eq_getElem h0)
        have HV : Hid (vS s.data.toList = if s[0] = 45 then -(vl s.data.toList : Int) else vl s.data.toList) := Lib.hid (by unfold vS; rw [HH.out]; simp)
        have HY : Hid (∀ n, isDec s n → vS s.data.toList = n) := Lib.hid (fun n hn => by rw [hn.list, vS_itoa])
        generalize vl s.data.toList = v at *
        by_cases h45 : s[0] = 45
        · rw [if_pos h45] at HV
          have hq : s[0].toNat = 45 := by rw [h45]; rfl
          obtain ⟨X, hX⟩ : ∃ X, -(v : Int) = X := ⟨_, rfl⟩
          rw [hX] at HV
          have hX2 : wrap64 X = X := by unfold wrap64; omega
          clear h45 HA HH
          go_wp2_with (first | (go_at_call 98; fail))
          clear hX hX2 hq
          refine (l00In_any _ _ _ _).mono ?_
          rintro e w' ⟨rfl, rfl⟩
          by_cases hr : itemOk X
          · have HR := Lib.hid hr
            rw [decide_eq_true (show -1000000000000000 ≤ X ∧ X ≤ 1000000000000000 from hr)]
            clear hr
            go_wp2_with (first | (go_at_call 57; fail))
            refine (l01Dec_any X (by have := HR.out.1; omega) (by have := HR.out.2; omega) _).mono ?_
            rintro e w' ⟨rfl, hb⟩
            have HB := Lib.hid hb
            clear hb
            by_cases heq : s = ⟨(Lib.itoa X).toArray⟩
            · have HD : Hid (isDec s X) := Lib.hid ⟨HR.out, heq⟩
              rw [← heq]
              clear heq
              go_wp2_with fail
              go_ret2
              exact ⟨.inl ⟨X, HD.out, rfl⟩, HB.out⟩
            · have HN : Hid (¬ ∃ n, isDec s n) := Lib.hid (fun ⟨n, hn⟩ => by
                have := HY.out n hn
                rw [HV.out] at this
                subst this
                exact heq hn.2)
              have hne := str_ne (fun h : (⟨(Lib.itoa X).toArray⟩ : ByteArray) = s => heq h.symm)
              generalize (⟨(Lib.itoa X).toArray⟩ : ByteArray) = t at *
              clear heq
              go_wp2_with fail
              go_ret2
              exact ⟨.inr ⟨HN.out, rfl⟩, HB.out⟩
          · have HN : Hid (¬ ∃ n, isDec s n) := Lib.hid (fun ⟨n, hn⟩ => by
              have := HY.out n hn
              rw [HV.out] at this
              subst this
              exact hr hn.1)
            rw [decide_eq_false (show ¬ (-1000000000000000 ≤ X ∧ X ≤ 1000000000000000) from hr)]
            clear hr
            go_wp2_with fail
            go_ret2
            exact ⟨.inr ⟨HN.out, rfl⟩, Below.refl _ _⟩
        · rw [if_neg h45] at HV
          have hq : ¬ s[0].toNat = 45 := fun h => h45 (UInt8.toNat_inj.1 h)
          have hq2 : ((s[0].toNat : Int) == 45) = false := by rw [beq_eq_false_iff_ne]; omega
          clear h45 HA HH
          go_wp2_with (first | (go_at_call 98; fail))
          clear hq hq2
          obtain ⟨X, hX⟩ : ∃ X, (v : Int) = X := ⟨_, rfl⟩
          rw [hX] at HV ⊢
          clear hX
          refine (l00In_any _ _ _ _).mono ?_
          rintro e w' ⟨rfl, rfl⟩
          by_cases hr : itemOk X
          · have HR := Lib.hid hr
            rw [decide_eq_true (show -1000000000000000 ≤ X ∧ X ≤ 1000000000000000 from hr)]
            clear hr
            go_wp2_with (first | (go_at_call 57; fail))
            refine (l01Dec_any X (by have := HR.out.1; omega) (by have := HR.out.2; omega) _).mono ?_
            rintro e w' ⟨rfl, hb⟩
            have HB := Lib.hid hb
            clear hb
            by_cases heq : s = ⟨(Lib.itoa X).toArray⟩
            · have HD : Hid (isDec s X) := Lib.hid ⟨HR.out, heq⟩
              rw [← heq]
              clear heq
              go_wp2_with fail
              go_ret2
              exact ⟨.inl ⟨X, HD.out, rfl⟩, HB.out⟩
            · have HN : Hid (¬ ∃ n, isDec s n) := Lib.hid (fun ⟨n, hn⟩ => by
                have := HY.out n hn
                rw [HV.out] at this
                subst this
                exact heq hn.2)
              have hne := str_ne (fun h : (⟨(Lib.itoa X).toArray⟩ : ByteArray) = s => heq h.symm)
              generalize (⟨(Lib.itoa X).toArray⟩ : ByteArray) = t at *
              clear heq
              go_wp2_with fail
              go_ret2
              exact ⟨.inr ⟨HN.out, rfl⟩, HB.out⟩
          · have HN : Hid (¬ ∃ n, isDec s n) := Lib.hid (fun ⟨n, hn⟩ => by
              have := HY.out n hn
              rw [HV.out] at this
              subst this
              exact hr hn.1)
            rw [decide_eq_false (show ¬ (-1000000000000000 ≤ X ∧ X ≤ 1000000000000000) from hr)]
            clear hr
            go_wp2_with fail
            go_ret2
            exact ⟨.inr ⟨HN.out, rfl⟩, Below.refl _ _⟩
theorem isItem_any (n : Int) (v : Bool) (hv : decide (-1000000000000000 ≤ n ∧ n ≤ 1000000000000000) = v) (w : World) : Calls Tryd.prog 61 #[.int .i64 n] w (fun e w' => e = .returned (.bool v) ∧ w = w') := by
  by_cases h0 : -1000000000000000 ≤ n
  · have e : v = decide (n ≤ 1000000000000000) := by rw [← hv, Bool.eq_iff_iff]; simp; omega
    have E := Lib.hid e
    clear e hv
    go_enter Tryd.func61, Tryd.ntmps61
    go_wp2
    go_ret
    exact ⟨by first | rfl | (rw [E.out]; rfl), rfl⟩
  · have h1 : decide (-1000000000000000 ≤ n) = false := by simpa using h0
    have e : v = false := by rw [← hv]; simp; omega
    have E := Lib.hid e
    clear e hv
    go_enter Tryd.func61, Tryd.ntmps61
    go_wp2
    go_ret
    exact ⟨by first | rfl | (rw [E.out]; rfl), rfl⟩
set_option maxRecDepth 100000 in
set_option maxHeartbeats 1000000 in
theorem implReadDecimal_any (s : ByteArray) (hs : s.size ≤ 1048576) (w : World) (hT : Pow10 w) (hE : ErrV w) :
    Calls Tryd.prog 18 #[.string s] w (fun e w' => ((∃ n, isDec s n ∧ e = .returned (.tuple #[.int .i64 n, .bool true])) ∨ ((¬ ∃ n, isDec s n) ∧ e = .returned (.tuple #[.int .i64 0, .bool false]))) ∧ Below w.heap.size w w') := by
  have HT := Lib.hid hT
  obtain ⟨t1, p1, t2, p2, hv1, hv2⟩ := hE
  have HE := Lib.hid (And.intro hv1 hv2)
  have HP : Hid (∀ n, isDec s n → Lib.parseIntB 64 s.data.toList = .ok n) := Lib.hid (fun n hn => by rw [hn.list]; exact parse_itoa hn.1)
  clear hT hv1 hv2
  cases hp : Lib.parseIntB 64 s.data.toList with
  | «syntax» =>
    have HN : Hid (¬ ∃ n, isDec s n) := Lib.hid (fun ⟨n, hn⟩ => by have := HP.out n hn; rw [hp] at this; cases this)
    have HH := Lib.hid hp
    clear hp
    go_enter Tryd.func18, Tryd.ntmps18
    go_wp2_with (first | (go_at_call 60; fail))
    refine (Tryd.parseSyntax s (by omega) HH.out _ _ _ HE.out.1).mono ?_
    rintro e w1 ⟨N, rfl, -, -, hb⟩
    have HB := Lib.hid hb
    clear hb
    go_wp2_with fail
    go_ret2
    exact ⟨.inr ⟨HN.out, rfl⟩, HB.out⟩
  | range =>
    have HN : Hid (¬ ∃ n, isDec s n) := Lib.hid (fun ⟨n, hn⟩ => by have := HP.out n hn; rw [hp] at this; cases this)
    have HH := Lib.hid hp
    clear hp
    go_enter Tryd.func18, Tryd.ntmps18
    go_wp2_with (first | (go_at_call 60; fail))
    refine (Tryd.parseRange s (by omega) HH.out _ _ _ HE.out.2).mono ?_
    rintro e w1 ⟨N, rfl, -, -, hb⟩
    have HB := Lib.hid hb
    clear hb
    generalize Lib.intSat 64 s.data.toList = q
    go_wp2_with fail
    go_ret2
    exact ⟨.inr ⟨HN.out, rfl⟩, HB.out⟩
  | ok v =>
    have HY : Hid (∀ n, isDec s n → v = n) := Lib.hid (fun n hn => by have := HP.out n hn; rw [hp] at this; injection this)
    have HH := Lib.hid hp
    clear hp
    go_enter Tryd.func18, Tryd.ntmps18
    go_wp2_with (first | (go_at_call 60; fail))
    refine (Tryd.parseOk s (by omega) v HH.out _).mono ?_
    rintro e w1 ⟨rfl, hw⟩
    have HB : Hid (Below w.heap.size w w1) := Lib.hid (by
      rcases hw with rfl | ⟨t, rfl⟩
      · exact Below.refl _ _
      · exact Lib.bytesWorld_below _ _ _)
    clear hw
    by_cases hr : itemOk v
    · have HR := Lib.hid hr
      have hd : decide (-1000000000000000 ≤ v ∧ v ≤ 1000000000000000) = true := decide_eq_true hr
      have HD := Lib.hid hd
      clear hr hd
      by_cases heq : s = ⟨(Lib.itoa v).toArray⟩
      · have HS : Hid (isDec s v) := Lib.hid ⟨HR.out, heq⟩
        have HQ := Lib.hid heq
        clear heq
        go_wp2_with (first
          | (go_at_call 61; refine (isItem_any v true HD.out _).mono ?_; rintro e w2 ⟨rfl, rfl⟩)
          | (go_at_call 16; refine (implDecimal_any v (by have := HR.out.1; omega) (by have := HR.out.2; omega) _ (HT.out.below HB.out)).mono ?_; rintro e w3 ⟨rfl, hb3⟩; rw [← HQ.out]))
        go_ret2
        exact ⟨.inl ⟨v, HS.out, rfl⟩, Bel_next HB.out hb3⟩
      · have HN : Hid (¬ ∃ n, isDec s n) := Lib.hid (fun ⟨n, hn⟩ => by
          have := HY.out n hn
          subst this
          exact heq hn.2)
        have hne := str_ne (fun h : (⟨(Lib.itoa v).toArray⟩ : ByteArray) = s => heq h.symm)
        have hne2 : (Lib.itoa v == s.toList) = false := by
          rw [Lib.toList_data] at hne
          exact hne
        clear heq
        go_wp2_with (first
          | (go_at_call 61; refine (isItem_any v true HD.out _).mono ?_; rintro e w2 ⟨rfl, rfl⟩)
          | (go_at_call 16; refine (implDecimal_any v (by have := HR.out.1; omega) (by have := HR.out.2; omega) _ (HT.out.below HB.out)).mono ?_; rintro e w3 ⟨rfl, hb3⟩))
        go_ret2
        exact ⟨.inr ⟨HN.out, rfl⟩, Bel_next HB.out hb3⟩
    · have HN : Hid (¬ ∃ n, isDec s n) := Lib.hid (fun ⟨n, hn⟩ => by
        have := HY.out n hn
        subst this
        exact hr hn.1)
      have HD : Hid (decide (-1000000000000000 ≤ v ∧ v ≤ 1000000000000000) = false) := Lib.hid (decide_eq_false hr)
      clear hr
      go_wp2_with (first
        | (go_at_call 61; refine (isItem_any v false HD.out _).mono ?_; rintro e w2 ⟨rfl, rfl⟩))
      go_ret2
      exact ⟨.inr ⟨HN.out, rfl⟩, HB.out⟩
theorem specReadDecimal_any (s : ByteArray) (hs : s.size ≤ 1048576) (w : World) :
    Calls Tryd.prog 17 #[.string s] w (fun e w' => ((∃ n, isDec s n ∧ e = .returned (.tuple #[.int .i64 n, .bool true])) ∨ ((¬ ∃ n, isDec s n) ∧ e = .returned (.tuple #[.int .i64 0, .bool false]))) ∧ Below w.heap.size w w') := by
  go_enter Tryd.func17, Tryd.ntmps17
  go_wp2_with (first | (go_at_call 59; fail))
  refine (l01Value_any s hs _).mono ?_
  rintro e w1 ⟨⟨n, hn, rfl⟩ | ⟨hn, rfl⟩, hb⟩
  · have HN := Lib.hid (And.intro hn hb)
    clear hn hb
    go_wp2_with fail
    go_ret2
    exact ⟨.inl ⟨n, HN.out.1, rfl⟩, HN.out.2⟩
  · have HN := Lib.hid (And.intro hn hb)
    clear hn hb
    go_wp2_with fail
    go_ret2
    exact ⟨.inr ⟨HN.out.1, rfl⟩, HN.out.2⟩
theorem isDec.one {s : ByteArray} {n m : Int} (h : isDec s n) (k : isDec s m) : n = m := by
  have h1 := vS_itoa n
  have h2 := vS_itoa m
  rw [← h.list] at h1
  rw [← k.list] at h2
  rw [← h1, ← h2]
end Go.Proofs.YtfgkimhcbboipaaDoor
