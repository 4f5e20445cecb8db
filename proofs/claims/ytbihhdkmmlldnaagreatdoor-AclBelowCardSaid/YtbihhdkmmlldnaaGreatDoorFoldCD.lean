/- The code's Int hands back a number's own text, or that there is none, for every text. The code's Int, and Less, for every text. -/
import Derived.Test.YtbihhdkmmlldnaaGreatDoorFoldAB
import Derived.Lib.IndexBytes
import Derived.Outline
namespace Go.Proofs.YtbihhdkmmlldnaaGreatDoor
open Go Go.RowKit Go.Proofs.BerK Go.Proofs.MemK Go.Proofs.UtfK

/-! ### strings.CutPrefix at a minus -/
def hasM (l : List UInt8) : Bool := decide (l.head? = some 45)
theorem head_at (s : ByteArray) (h : 0 < s.size) : s.data.toList.head? = some s[0] := by
  have hl := len_list s
  rw [List.head?_eq_getElem?, List.getElem?_eq_getElem (by omega)]; rfl
theorem hasM_true (s : ByteArray) (h : 0 < s.size) (h0 : s[0] = 45) : hasM s.data.toList = true := by simp [hasM, head_at s h, h0]
theorem hasM_false (s : ByteArray) (h : 0 < s.size) (h0 : s[0] ≠ 45) : hasM s.data.toList = false := by simp [hasM, head_at s h, h0]
theorem digs_true (l : List UInt8) (h : hasM l = true) : digs l = l.drop 1 := by rw [digs, if_pos (by simpa [hasM] using h)]
theorem digs_false (l : List UInt8) (h : hasM l = false) : digs l = l := by rw [digs, if_neg (by simpa [hasM] using h)]
theorem first_one (s : ByteArray) (h : 0 < s.size) : (s.extract 0 1).data.toList = [s[0]] := by
  have hl := len_list s
  rw [Lib.extract_data, List.drop_zero, show (1 - 0) = 0 + 1 by omega, List.take_succ_eq_append_getElem (by omega)]; rfl

def CutPost (l : List UInt8) (w : World) (en : Ending) (w' : World) : Prop := en = .returned (.tuple #[.string ⟨(digs l).toArray⟩, .bool (hasM l)]) ∧ w' = w
theorem mk_list (x : ByteArray) : (⟨x.data.toList.toArray⟩ : ByteArray) = x := by cases x; simp
theorem cutPost_mk {l : List UInt8} {x : ByteArray} {b : Bool} {w : World} (h1 : digs l = x.data.toList) (h2 : hasM l = b) : CutPost l w (.returned (.tuple #[.string x, .bool b])) w := by
  refine ⟨?_, rfl⟩
  rw [h1, h2, mk_list]

/-! ### strings.TrimLeft at a nought -/
/-- Without any noughts ahead. -/
def tz (l : List UInt8) : List UInt8 := l.dropWhile (· == 48)
theorem tz_cons (c : UInt8) (l : List UInt8) : tz (c :: l) = if c = 48 then tz l else c :: l := by
  unfold tz
  by_cases h : c = 48 <;> simp [h]
theorem strip_tz (l : List UInt8) (h : l ≠ []) : strip l = if tz l = [] then [48] else tz l := by
  induction l with
  | nil => exact absurd rfl h
  | cons c r ih =>
    cases r with
    | nil =>
      rw [tz_cons]
      by_cases hc : c = 48
      · subst hc; rfl
      · rw [if_neg hc, if_neg (by simp)]; rfl
    | cons d r =>
      rw [strip, tz_cons]
      by_cases hc : c = 48
      · rw [if_pos hc, if_pos hc, ih (by simp)]
      · rw [if_neg hc, if_neg hc, if_neg (by simp)]
theorem tz_not (l : List UInt8) : tz l ≠ [48] := by
  induction l with
  | nil => simp [tz]
  | cons c r ih =>
    rw [tz_cons]
    split
    · exact ih
    · intro h; injection h; contradiction
theorem tz_len (l : List UInt8) : (tz l).length ≤ l.length := by
  unfold tz; exact (List.dropWhile_sublist _).length_le
/-- How long a text is. -/
def strSz : Value → Nat
  | .string x => x.size
  | _ => 0
def TrimPost (l : List UInt8) (w : World) (en : Ending) (w' : World) : Prop := en = .returned (.string ⟨(tz l).toArray⟩) ∧ w' = w
theorem trimPost_mk {l : List UInt8} {x : ByteArray} {w : World} (h1 : tz l = x.data.toList) : TrimPost l w (.returned (.string x)) w := by
  refine ⟨?_, rfl⟩
  rw [h1, mk_list]
theorem list_cut (x : ByteArray) (h : 0 < x.size) : x.data.toList = x[0] :: (x.extract 1 x.size).data.toList := by
  have hl := len_list x
  rw [Lib.extract_to_end]
  have h := drop_at x.data.toList 0 (by omega)
  rw [List.drop_zero] at h
  exact h

set_option maxHeartbeats 800000 in
set_option maxRecDepth 100000 in
theorem trimb_any (s : ByteArray) (w : World) :
    Calls Tryz.prog 144 #[.string s, .int .u8 48] w (TrimPost s.data.toList w) := by
  obtain ⟨L, hL⟩ : ∃ L, s.data.toList = L := ⟨_, rfl⟩
  rw [hL]
  go_enter Tryz.func144, Tryz.ntmps144
  go_wp2
  go_loop [0] (fun v => ∃ x : ByteArray, v = .string x ∧ tz x.data.toList = tz L) (fun v => strSz v)
  case atStart => exact ⟨s, rfl, by rw [hL]⟩
  case round =>
    obtain ⟨x, rfl, hx⟩ := hrel
    by_cases h : x.size = 0
    · have hn : x.data.toList = [] := List.eq_nil_of_length_eq_zero (by rw [len_list]; exact h)
      rw [hn] at hx
      have H := Lib.hid (hx.symm.trans (show tz [] = x.data.toList by rw [hn]; rfl))
      clear hx hn
      go_wp2
      go_ret
      exact trimPost_mk H.out
    · have hp : 0 < x.size := by omega
      have h1 : 1 ≤ x.size := hp
      have h2 : (0 : Int) < (x.size : Int) := by omega
      have h3 : (1 : Int) ≤ (x.size : Int) := by omega
      have hcut := list_cut x hp
      rw [hcut, tz_cons] at hx
      have hb := x[0].toNat_lt
      by_cases h0 : x[0] = 48
      · rw [if_pos h0] at hx
        have ht : ((x[0].toNat : Int) == 48) = true := by rw [h0]; rfl
        have H := Lib.hid hx
        obtain ⟨c, hc⟩ : ∃ c, x[0].toNat = c := ⟨_, rfl⟩
        rw [hc] at ht hb
        clear hx hcut h0 h
        go_wp2
        refine ⟨⟨_, rfl, H.out⟩, ?_⟩
        show (x.extract 1 x.size).size < x.size
        rw [← len_list (x.extract 1 x.size), Lib.extract_to_end, List.length_drop, len_list]; omega
      · rw [if_neg h0] at hx
        have ht : ((x[0].toNat : Int) == 48) = false := by
          rw [beq_eq_false_iff_ne]; intro hh; apply h0; apply UInt8.toNat_inj.1; show _ = 48; omega
        rw [← hcut] at hx
        have H := Lib.hid hx
        clear hx hcut h0 h
        go_wp2
        go_ret
        exact trimPost_mk H.out.symm

set_option maxHeartbeats 800000 in
set_option maxRecDepth 100000 in
theorem trim_any (s : ByteArray) (w : World) :
    Calls Tryz.prog 151 #[.string s, .string ⟨#[48]⟩] w (TrimPost s.data.toList w) := by
  cases hq : s.data.toList with
  | nil =>
    have hem : s.toList.isEmpty = true := by rw [ByteArray.toList_eq, hq]; rfl
    have H := Lib.hid (show tz [] = s.data.toList by rw [hq]; rfl)
    clear hq
    go_enter Tryz.func151, Tryz.ntmps151
    go_wp2
    go_ret
    exact trimPost_mk H.out
  | cons a l =>
    have hem : s.toList.isEmpty = false := by rw [ByteArray.toList_eq, hq]; rfl
    have HC := Lib.hid (trimb_any s w)
    rw [hq] at HC
    clear hq
    go_enter Tryz.func151, Tryz.ntmps151
    go_wp2_with fail
    refine HC.out.mono ?_
    rintro e w1 ⟨rfl, hw⟩
    obtain rfl := hw.symm
    go_wp2
    go_ret
    exact ⟨rfl, rfl⟩

/-! ### isDigits -/
def okD (l : List UInt8) : Bool := decide (1 ≤ l.length) && decide (l.length ≤ 32) && l.all digB
theorem intOk_okD (l : List UInt8) : intOk l = okD (digs l) := rfl
def BoolPost (b : Bool) (w : World) (en : Ending) (w' : World) : Prop := en = .returned (.bool b) ∧ Below w.heap.size w w'
theorem boolPost_mk {a b : Bool} {w w' : World} (h : b = a) (hb : Below w.heap.size w w') : BoolPost b w (.returned (.bool a)) w' := by subst h; exact ⟨rfl, hb⟩
theorem okD_bad (s : ByteArray) (p : Nat) (h : p < s.size) (hd : digB s[p] = false) : okD s.data.toList = false := by
  have hl := len_list s
  have : s.data.toList.all digB = false := by
    rw [List.all_eq_false]
    exact ⟨s[p], List.getElem_mem (l := s.data.toList) (n := p) (by omega), by simp [hd]⟩
  simp [okD, this]

end Go.Proofs.YtbihhdkmmlldnaaGreatDoor
namespace Go.Proofs.YtbihhdkmmlldnaaGreatDoor
open Go Go.RowKit Go.Proofs.BerK Go.Proofs.MemK Go.Proofs.UtfK

/-- Byte by byte, as the model has it. -/
theorem less_ltB : ∀ (x y : List UInt8), Op.bytesLess x y = ltB x y
  | x, [] => by cases x <;> simp [Op.bytesLess, ltB]
  | [], _ :: _ => by simp [Op.bytesLess, ltB]
  | a :: x, b :: y => by
    rw [Op.bytesLess, less_ltB x y, ltB, ltB, Bool.eq_iff_iff]
    simp only [Bool.or_eq_true, Bool.and_eq_true, decide_eq_true_eq, beq_iff_eq, List.cons_lt_cons_iff]

/-! ### Int -/
theorem intL_bad (l : List UInt8) (h : okD (digs l) = false) : intL l = ([], false) := by rw [intL, intOk_okD, if_pos h]
theorem okD_ne (l : List UInt8) (h : okD l = true) : l ≠ [] ∧ l.length ≤ 32 := by
  simp only [okD, Bool.and_eq_true, decide_eq_true_eq] at h
  refine ⟨?_, h.1.2⟩
  rintro rfl
  simp at h
theorem intL_zero (l : List UInt8) (h : okD (digs l) = true) (ht : tz (digs l) = []) : intL l = ([48], true) := by
  rw [intL, intOk_okD, if_neg (by simp [h]), strip_tz _ (okD_ne _ h).1, if_pos ht, if_pos rfl]
theorem intL_num (l : List UInt8) (h : okD (digs l) = true) (ht : tz (digs l) ≠ []) : intL l = ((if hasM l = true then [45] else []) ++ tz (digs l), true) := by
  rw [intL, intOk_okD, if_neg (by simp [h]), strip_tz _ (okD_ne _ h).1, if_neg ht, if_neg (tz_not _)]
  by_cases hm : l.head? = some 45 <;> simp [hasM, hm]
def IntPost (l : List UInt8) (w : World) (en : Ending) (w' : World) : Prop := en = .returned (.tuple #[.string ⟨(intL l).1.toArray⟩, .bool (intL l).2]) ∧ Below w.heap.size w w'
theorem intPost_mk {l a : List UInt8} {b : Bool} {w w' : World} (h : intL l = (a, b)) (hb : Below w.heap.size w w') : IntPost l w (.returned (.tuple #[.string ⟨a.toArray⟩, .bool b])) w' := by
  refine ⟨?_, hb⟩
  rw [h]

end Go.Proofs.YtbihhdkmmlldnaaGreatDoor
