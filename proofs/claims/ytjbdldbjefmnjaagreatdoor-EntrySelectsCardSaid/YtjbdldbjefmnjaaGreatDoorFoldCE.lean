/- The code's Int hands back a number's own text, or that there is none, for every text. The code's Int, and Less, for every text. The code's Less tells which of two texts is less, for every two texts. -/
import Derived.Test.YtjbdldbjefmnjaaGreatDoorFoldAB
import Derived.Lib.IndexBytes
import Derived.Outline
namespace Go.Proofs.YtjbdldbjefmnjaaGreatDoor
open Go Go.RowKit Go.Proofs.BerK Go.Proofs.MemK Go.Proofs.UtfK

/-! ### strings.CutPrefix at a minus -/
def hasM (l : List UInt8) : Bool := decide (l.head? = some 45)
theorem head_at (s : ByteArray) (h : 0 < s.size) : s.data.toList.head? = some s[0] := by
  have hl := len_list s
  rw [List.head?_eq_getElem?, List.getElem?_eq_getElem (by omega)]; rfl
theorem hasM_true (s : ByteArray) (h : 0 < s.size) (h0 : s[0] = 45) : hasM s.data.toList = true := by simp [hasM, head_at s h, h0]
theorem hasM_false (s : ByteArray) (h : 0 < s.size) (h0 : s[0] ≠ 45) : hasM s.data.toList = false := by simp [hasM, head_at s h, h0]
theorem digs_true (l : List UInt8) (h : hasM l = true) : digs l = l.drop 1 := by rw [digs, if_pos (by simpa [hasM] using h)]
theorem digs_false (l : List UInt8) (h : hasM l = false) : digs l = l := by rw [digs, if_neg (by simpa [hasM] using h)]
theorem first_one (s : ByteArray) (h : 0 < s.size) : (s.extract 0 1).data.toList = [s[0]] := by
  have hl := len_list s
  rw [Lib.extract_data, List.drop_zero, show (1 - 0) = 0 + 1 by omega, List.take_succ_eq_append_getElem (by omega)]; rfl

def CutPost (l : List UInt8) (w : World) (en : Ending) (w' : World) : Prop := en = .returned (.tuple #[.string ⟨(digs l).toArray⟩, .bool (hasM l)]) ∧ w' = w
theorem mk_list (x : ByteArray) : (⟨x.data.toList.toArray⟩ : ByteArray) = x := by cases x; simp
theorem cutPost_mk {l : List UInt8} {x : ByteArray} {b : Bool} {w : World} (h1 : digs l = x.data.toList) (h2 : hasM l = b) : CutPost l w (.returned (.tuple #[.string x, .bool b])) w := by
  refine ⟨?_, rfl⟩
  rw [h1, h2, mk_list]

set_option maxHeartbeats 800000 in
set_option maxRecDepth 100000 in
theorem cut_any (s : ByteArray) (w : World) :
    Calls Tryz.prog 69 #[.string s, .string ⟨#[45]⟩] w (CutPost s.data.toList w) := by
  by_cases h : s.size = 0
  · have hn : s.data.toList = [] := List.eq_nil_of_length_eq_zero (by rw [len_list]; exact h)
    have H := Lib.hid (And.intro (show digs s.data.toList = s.data.toList by rw [hn]; rfl) (show hasM s.data.toList = false by rw [hn]; rfl))
    clear hn
    go_enter Tryz.func69, Tryz.ntmps69
    go_wp2
    go_ret2
    exact cutPost_mk H.out.1 H.out.2
  · have h1 : 1 ≤ s.size := by omega
    have h2 : (1 : Int) ≤ (s.size : Int) := by omega
    have hf := first_one s (by omega)
    by_cases h0 : s[0] = 45
    · have ht : ((s.extract 0 1).toList == [45]) = true := by rw [ByteArray.toList_eq, hf, h0]; rfl
      have hm := hasM_true s (by omega) h0
      have H := Lib.hid (And.intro (show digs s.data.toList = (s.extract 1 s.size).data.toList by rw [digs_true _ hm, Lib.extract_to_end]) hm)
      clear hf h0 hm h
      go_enter Tryz.func69, Tryz.ntmps69
      go_wp2
      go_ret2
      exact cutPost_mk H.out.1 H.out.2
    · have ht : ((s.extract 0 1).toList == [45]) = false := by
        rw [ByteArray.toList_eq, hf, beq_eq_false_iff_ne]; intro hh; injection hh; contradiction
      have hm := hasM_false s (by omega) h0
      have H := Lib.hid (And.intro (digs_false _ hm) hm)
      clear hf h0 hm h
      go_enter Tryz.func69, Tryz.ntmps69
      go_wp2
      go_ret2
      exact cutPost_mk H.out.1 H.out.2

/-! ### strings.TrimLeft at a nought -/
/-- Without any noughts ahead. -/
def tz (l : List UInt8) : List UInt8 := l.dropWhile (· == 48)
theorem tz_cons (c : UInt8) (l : List UInt8) : tz (c :: l) = if c = 48 then tz l else c :: l := by
  unfold tz
  by_cases h : c = 48 <;> simp [h]
theorem strip_tz (l : List UInt8) (h : l ≠ []) : strip l = if tz l = [] then [48] else tz l := by
  induction l with
  | nil => exact absurd rfl h
  | cons c r ih =>
    cases r with
    | nil =>
      rw [tz_cons]
      by_cases hc : c = 48
      · subst hc; rfl
      · rw [if_neg hc, if_neg (by simp)]; rfl
    | cons d r =>
      rw [strip, tz_cons]
      by_cases hc : c = 48
      · rw [if_pos hc, if_pos hc, ih (by simp)]
      · rw [if_neg hc, if_neg hc, if_neg (by simp)]
theorem tz_not (l : List UInt8) : tz l ≠ [48] := by
  induction l with
  | nil => simp [tz]
  | cons c r ih =>
    rw [tz_cons]
    split
    · exact ih
    · intro h; injection h; contradiction
theorem tz_len (l : List UInt8) : (tz l).length ≤ l.length := by
  unfold tz; exact (List.dropWhile_sublist _).length_le
/-- How long a text is. -/
def strSz : Value → Nat
  | .string x => x.size
  | _ => 0
def TrimPost (l : List UInt8) (w : World) (en : Ending) (w' : World) : Prop := en = .returned (.string ⟨(tz l).toArray⟩) ∧ w' = w
theorem trimPost_mk {l : List UInt8} {x : ByteArray} {w : World} (h1 : tz l = x.data.toList) : TrimPost l w (.returned (.string x)) w := by
  refine ⟨?_, rfl⟩
  rw [h1, mk_list]
theorem list_cut (x : ByteArray) (h : 0 < x.size) : x.data.toList = x[0] :: (x.extract 1 x.size).data.toList := by
  have hl := len_list x
  rw [Lib.extract_to_end]
  have h := drop_at x.data.toList 0 (by omega)
  rw [List.drop_zero] at h
  exact h

set_option maxHeartbeats 800000 in
set_option maxRecDepth 100000 in
theorem trimb_any (s : ByteArray) (w : World) :
    Calls Tryz.prog 80 #[.string s, .int .u8 48] w (TrimPost s.data.toList w) := by
  obtain ⟨L, hL⟩ : ∃ L, s.data.toList = L := ⟨_, rfl⟩
  rw [hL]
  go_enter Tryz.func80, Tryz.ntmps80
  go_wp2
  go_loop [0] (fun v => ∃ x : ByteArray, v = .string x ∧ tz x.data.toList = tz L) (fun v => strSz v)
  case atStart => exact ⟨s, rfl, by rw [hL]⟩
  case round =>
    obtain ⟨x, rfl, hx⟩ := hrel
    by_cases h : x.size = 0
    · have hn : x.data.toList = [] := List.eq_nil_of_length_eq_zero (by rw [len_list]; exact h)
      rw [hn] at hx
      have H := Lib.hid (hx.symm.trans (show tz [] = x.data.toList by rw [hn]; rfl))
      clear hx hn
      go_wp2
      go_ret
      exact trimPost_mk H.out
    · have hp : 0 < x.size := by omega
      have h1 : 1 ≤ x.size := hp
      have h2 : (0 : Int) < (x.size : Int) := by omega
      have h3 : (1 : Int) ≤ (x.size : Int) := by omega
      have hcut := list_cut x hp
      rw [hcut, tz_cons] at hx
      have hb := x[0].toNat_lt
      by_cases h0 : x[0] = 48
      · rw [if_pos h0] at hx
        have ht : ((x[0].toNat : Int) == 48) = true := by rw [h0]; rfl
        have H := Lib.hid hx
        obtain ⟨c, hc⟩ : ∃ c, x[0].toNat = c := ⟨_, rfl⟩
        rw [hc] at ht hb
        clear hx hcut h0 h
        go_wp2
        refine ⟨⟨_, rfl, H.out⟩, ?_⟩
        show (x.extract 1 x.size).size < x.size
        rw [← len_list (x.extract 1 x.size), Lib.extract_to_end, List.length_drop, len_list]; omega
      · rw [if_neg h0] at hx
        have ht : ((x[0].toNat : Int) == 48) = false := by
          rw [beq_eq_false_iff_ne]; intro hh; apply h0; apply UInt8.toNat_inj.1; show _ = 48; omega
        rw [← hcut] at hx
        have H := Lib.hid hx
        clear hx hcut h0 h
        go_wp2
        go_ret
        exact trimPost_mk H.out.symm

set_option maxHeartbeats 800000 in
set_option maxRecDepth 100000 in
theorem trim_any (s : ByteArray) (w : World) :
    Calls Tryz.prog 71 #[.string s, .string ⟨#[48]⟩] w (TrimPost s.data.toList w) := by
  cases hq : s.data.toList with
  | nil =>
    have hem : s.toList.isEmpty = true := by rw [ByteArray.toList_eq, hq]; rfl
    have H := Lib.hid (show tz [] = s.data.toList by rw [hq]; rfl)
    clear hq
    go_enter Tryz.func71, Tryz.ntmps71
    go_wp2
    go_ret
    exact trimPost_mk H.out
  | cons a l =>
    have hem : s.toList.isEmpty = false := by rw [ByteArray.toList_eq, hq]; rfl
    have HC := Lib.hid (trimb_any s w)
    rw [hq] at HC
    clear hq
    go_enter Tryz.func71, Tryz.ntmps71
    go_wp2_with fail
    refine HC.out.mono ?_
    rintro e w1 ⟨rfl, hw⟩
    obtain rfl := hw.symm
    go_wp2
    go_ret
    exact ⟨rfl, rfl⟩

/-! ### isDigits -/
def okD (l : List UInt8) : Bool := decide (1 ≤ l.length) && decide (l.length ≤ 32) && l.all digB
theorem intOk_okD (l : List UInt8) : intOk l = okD (digs l) := rfl
def BoolPost (b : Bool) (w : World) (en : Ending) (w' : World) : Prop := en = .returned (.bool b) ∧ Below w.heap.size w w'
theorem boolPost_mk {a b : Bool} {w w' : World} (h : b = a) (hb : Below w.heap.size w w') : BoolPost b w (.returned (.bool a)) w' := by subst h; exact ⟨rfl, hb⟩
theorem okD_bad (s : ByteArray) (p : Nat) (h : p < s.size) (hd : digB s[p] = false) : okD s.data.toList = false := by
  have hl := len_list s
  have : s.data.toList.all digB = false := by
    rw [List.all_eq_false]
    exact ⟨s[p], List.getElem_mem (l := s.data.toList) (n := p) (by omega), by simp [hd]⟩
  simp [okD, this]

set_option maxHeartbeats 1600000 in
set_option maxRecDepth 100000 in
theorem isdig_any (s : ByteArray) (w : World) :
    Calls Tryz.prog 70 #[.string s] w (BoolPost (okD s.data.toList) w) := by
  have hl := len_list s
  by_cases h0 : s.size < 1 ∨ 32 < s.size
  · have H := Lib.hid (show okD s.data.toList = false by simp [okD]; omega)
    have h0' : ((s.size : Int) < 1) ∨ (1 ≤ (s.size : Int) ∧ (32 : Int) < (s.size : Int)) := by omega
    clear h0 hl
    rcases h0' with h0 | ⟨h0, h1⟩
    all_goals
      go_enter Tryz.func70, Tryz.ntmps70
      go_wp2
      go_ret
      exact boolPost_mk H.out (Below.refl _ _)
  · have h1 : (1 : Int) ≤ (s.size : Int) := by omega
    have h2 : (s.size : Int) ≤ 32 := by omega
    have HB := Lib.hid (okD_bad s)
    have HN := Lib.hid (show 1 ≤ s.size ∧ s.size ≤ 32 by omega)
    clear h0
    go_enter Tryz.func70, Tryz.ntmps70
    go_wp2
    go_loopw [4] (fun _ wr => ∃ pos : Nat, pos ≤ s.size ∧ wr.heap[w.heap.size]? = some (.stringIter s pos) ∧ Below w.heap.size w wr ∧ (s.data.toList.take pos).all digB = true) (fun _ wr => s.size - wr.iterPos w.heap.size)
    case atStart => exact ⟨0, by omega, World.iter_heap w s 0, (Below.refl _ _).alloc (Nat.le_refl _) _, rfl⟩
    case round =>
      obtain ⟨pos, hps, hit, hb, hall⟩ := hrel
      have hip := iterPos_of hit
      by_cases hlt : pos < s.size
      · have hnx : ∀ ty, (Instr.next (.pointer (some ⟨w.heap.size, 0, none⟩)) true ty).run Tryz.prog wr = _ := fun ty => Lib.run_next_any_at wr w.heap.size s pos ty hit hlt
        by_cases ha : s[pos].toNat < 128
        · rw [decode_ascii s pos hlt ha] at hnx
          simp only [] at hnx
          have hit2 := Lib.iterAt_heap wr _ s pos (pos + 1) hit
          have hb2 := below_iter hb (k := w.heap.size) (Nat.le_refl _) s (pos + 1)
          obtain ⟨W2, hW2⟩ : ∃ W2, wr.iterAt w.heap.size s (pos + 1) = W2 := ⟨_, rfl⟩
          rw [hW2] at hnx hit2 hb2
          have hip2 := iterPos_of hit2
          by_cases hd : digB s[pos] = true
          · have hall2 : (s.data.toList.take (pos + 1)).all digB = true := by
              rw [take_snoc s pos hlt, List.all_append, hall]; simp [hd]
            have H := Lib.hid (And.intro hit2 (And.intro hb2 (And.intro hip (And.intro hip2 hall2))))
            unfold digB at hd
            simp only [Bool.and_eq_true, decide_eq_true_eq] at hd
            obtain ⟨c, hc⟩ : ∃ c, s[pos].toNat = c := ⟨_, rfl⟩
            rw [hc] at hnx hd ha
            have hd1 : (48 : Int) ≤ (c : Int) := by omega
            have hd2 : (c : Int) ≤ 57 := by omega
            clear hit hb hit2 hb2 hip hip2 hW2 hall hall2 hc hd
            go_wp2
            obtain ⟨g1, g2, g3, g4, g5⟩ := H.out
            exact ⟨⟨pos + 1, by omega, g1, g2, g5⟩, by rw [g3, g4]; omega⟩
          · have hd' : digB s[pos] = false := by simpa using hd
            have H := Lib.hid (And.intro (HB.out pos hlt hd') hb2)
            unfold digB at hd'
            simp only [Bool.and_eq_false_iff, decide_eq_false_iff_not] at hd'
            obtain ⟨c, hc⟩ : ∃ c, s[pos].toNat = c := ⟨_, rfl⟩
            rw [hc] at hnx hd' ha
            have hd2 : (c : Int) < 48 ∨ (48 : Int) ≤ (c : Int) ∧ (57 : Int) < (c : Int) := by omega
            clear hit hb hit2 hb2 hip hip2 hW2 hall hc hd hd'
            rcases hd2 with hd2 | ⟨hd2, hd3⟩
            all_goals
              go_wp2
              go_ret
              exact boolPost_mk H.out.1 H.out.2
        · obtain ⟨mid, m1, m2, m3, m4, m5, m6⟩ := dec_mid s pos hlt (by omega)
          have hb2 := below_iter hb (k := w.heap.size) (Nat.le_refl _) s (pos + (Utf8.decode s pos).2)
          have hd' : digB s[pos] = false := by unfold digB; simp; omega
          have H := Lib.hid (And.intro (HB.out pos hlt hd') hb2)
          obtain ⟨R, hR⟩ : ∃ R, (Utf8.decode s pos).1 = R := ⟨_, rfl⟩
          obtain ⟨K, hK⟩ : ∃ K, (Utf8.decode s pos).2 = K := ⟨_, rfl⟩
          rw [hR, hK] at hnx
          rw [hR] at m6
          rw [hK] at H
          obtain ⟨W2, hW2⟩ : ∃ W2, wr.iterAt w.heap.size s (pos + K) = W2 := ⟨_, rfl⟩
          rw [hW2] at hnx H
          have hd2 : (48 : Int) ≤ (R : Int) := by omega
          have hd3 : (57 : Int) < (R : Int) := by omega
          clear hit hb hb2 hip hW2 hall hR hK m1 m2 m3 m4 m5 m6 ha hd'
          go_wp2
          go_ret
          exact boolPost_mk H.out.1 H.out.2
      · have hnx : ∀ ty, (Instr.next (.pointer (some ⟨w.heap.size, 0, none⟩)) true ty).run Tryz.prog wr = _ := fun ty => Lib.run_next_end_at wr w.heap.size s pos ty hit hlt
        obtain rfl : pos = s.size := by omega
        rw [List.take_of_length_le (by omega)] at hall
        have H := Lib.hid (And.intro (show okD s.data.toList = true by have := HN.out; simp only [okD, hall, Bool.and_true, Bool.and_eq_true, decide_eq_true_eq]; omega) hb)
        clear hit hb hip hall
        go_wp2
        go_ret
        exact boolPost_mk H.out.1 H.out.2
end Go.Proofs.YtjbdldbjefmnjaaGreatDoor
namespace Go.Proofs.YtjbdldbjefmnjaaGreatDoor
open Go Go.RowKit Go.Proofs.BerK Go.Proofs.MemK Go.Proofs.UtfK

/-- Byte by byte, as the model has it. -/
theorem less_ltB : ∀ (x y : List UInt8), Op.bytesLess x y = ltB x y
  | x, [] => by cases x <;> simp [Op.bytesLess, ltB]
  | [], _ :: _ => by simp [Op.bytesLess, ltB]
  | a :: x, b :: y => by
    rw [Op.bytesLess, less_ltB x y, ltB, ltB, Bool.eq_iff_iff]
    simp only [Bool.or_eq_true, Bool.and_eq_true, decide_eq_true_eq, beq_iff_eq, List.cons_lt_cons_iff]

/-! ### Int -/
theorem intL_bad (l : List UInt8) (h : okD (digs l) = false) : intL l = ([], false) := by rw [intL, intOk_okD, if_pos h]
theorem okD_ne (l : List UInt8) (h : okD l = true) : l ≠ [] ∧ l.length ≤ 32 := by
  simp only [okD, Bool.and_eq_true, decide_eq_true_eq] at h
  refine ⟨?_, h.1.2⟩
  rintro rfl
  simp at h
theorem intL_zero (l : List UInt8) (h : okD (digs l) = true) (ht : tz (digs l) = []) : intL l = ([48], true) := by
  rw [intL, intOk_okD, if_neg (by simp [h]), strip_tz _ (okD_ne _ h).1, if_pos ht, if_pos rfl]
theorem intL_num (l : List UInt8) (h : okD (digs l) = true) (ht : tz (digs l) ≠ []) : intL l = ((if hasM l = true then [45] else []) ++ tz (digs l), true) := by
  rw [intL, intOk_okD, if_neg (by simp [h]), strip_tz _ (okD_ne _ h).1, if_neg ht, if_neg (tz_not _)]
  by_cases hm : l.head? = some 45 <;> simp [hasM, hm]
def IntPost (l : List UInt8) (w : World) (en : Ending) (w' : World) : Prop := en = .returned (.tuple #[.string ⟨(intL l).1.toArray⟩, .bool (intL l).2]) ∧ Below w.heap.size w w'
theorem intPost_mk {l a : List UInt8} {b : Bool} {w w' : World} (h : intL l = (a, b)) (hb : Below w.heap.size w w') : IntPost l w (.returned (.tuple #[.string ⟨a.toArray⟩, .bool b])) w' := by
  refine ⟨?_, hb⟩
  rw [h]

set_option maxHeartbeats 1600000 in
set_option maxRecDepth 100000 in
theorem int_any (s : ByteArray) (w : World) :
    Calls Tryz.prog 61 #[.string s] w (IntPost s.data.toList w) := by
  obtain ⟨L, hL⟩ : ∃ L, s.data.toList = L := ⟨_, rfl⟩
  have HC := Lib.hid (cut_any s)
  rw [hL] at HC ⊢
  obtain ⟨D, hD⟩ : ∃ D, digs L = D := ⟨_, rfl⟩
  obtain ⟨m, hm⟩ : ∃ m, hasM L = m := ⟨_, rfl⟩
  obtain ⟨T, hT⟩ : ∃ T, tz D = T := ⟨_, rfl⟩
  have HC1 := Lib.hid (isdig_any ⟨D.toArray⟩)
  have HC2 := Lib.hid (trim_any ⟨D.toArray⟩)
  have e1 : CutPost L = fun w en w' => en = .returned (.tuple #[.string ⟨D.toArray⟩, .bool m]) ∧ w' = w := by unfold CutPost; rw [hD, hm]
  rw [e1] at HC
  by_cases hok : okD D = true
  · have hne := okD_ne D hok
    have e2 : BoolPost (okD D) = fun w en w' => en = .returned (.bool true) ∧ Below w.heap.size w w' := by unfold BoolPost; rw [hok]
    change Hid (∀ w, Calls Tryz.prog _ _ w (BoolPost (okD D) w)) at HC1
    rw [e2] at HC1
    have e3 : TrimPost D = fun w en w' => en = .returned (.string ⟨T.toArray⟩) ∧ w' = w := by unfold TrimPost; rw [hT]
    change Hid (∀ w, Calls Tryz.prog _ _ w (TrimPost D w)) at HC2
    rw [e3] at HC2
    have hTl : T.length ≤ 32 := by rw [← hT]; exact Nat.le_trans (tz_len D) hne.2
    by_cases h0 : T = []
    · have HR := Lib.hid (intL_zero L (by rw [hD]; exact hok) (by rw [hD, hT]; exact h0))
      subst h0
      clear hL hD hm hT e1 e2 e3 hok hne
      go_enter Tryz.func61, Tryz.ntmps61
      go_wp2_with fail
      refine (HC.out _).mono ?_
      rintro e w1 ⟨rfl, hw⟩
      obtain rfl := hw.symm
      go_wp2_with fail
      refine (HC1.out _).mono ?_
      rintro e w2 ⟨rfl, hb2⟩
      go_wp2_with fail
      refine (HC2.out _).mono ?_
      rintro e w3 ⟨rfl, hw⟩
      obtain rfl := hw.symm
      go_wp2
      go_ret2
      exact intPost_mk HR.out hb2
    · have hem : T.isEmpty = false := by cases T with
        | nil => exact absurd rfl h0
        | cons a l => rfl
      have HR := Lib.hid (intL_num L (by rw [hD]; exact hok) (by rw [hD, hT]; exact h0))
      rw [hD, hT, hm] at HR
      clear hL hD hm hT e1 e2 e3 hok hne h0
      cases m
      · have HR2 := Lib.hid (show intL L = (T, true) by rw [HR.out]; simp)
        go_enter Tryz.func61, Tryz.ntmps61
        go_wp2_with fail
        refine (HC.out _).mono ?_
        rintro e w1 ⟨rfl, hw⟩
        obtain rfl := hw.symm
        go_wp2_with fail
        refine (HC1.out _).mono ?_
        rintro e w2 ⟨rfl, hb2⟩
        go_wp2_with fail
        refine (HC2.out _).mono ?_
        rintro e w3 ⟨rfl, hw⟩
        obtain rfl := hw.symm
        go_wp2
        go_ret2
        exact intPost_mk HR2.out hb2
      · have HR2 := Lib.hid (show intL L = (45 :: T, true) by rw [HR.out]; simp)
        go_enter Tryz.func61, Tryz.ntmps61
        go_wp2_with fail
        refine (HC.out _).mono ?_
        rintro e w1 ⟨rfl, hw⟩
        obtain rfl := hw.symm
        go_wp2_with fail
        refine (HC1.out _).mono ?_
        rintro e w2 ⟨rfl, hb2⟩
        go_wp2_with fail
        refine (HC2.out _).mono ?_
        rintro e w3 ⟨rfl, hw⟩
        obtain rfl := hw.symm
        go_wp2
        go_ret2
        rw [cat_one]
        exact intPost_mk HR2.out hb2
  · have hok' : okD D = false := by simpa using hok
    have e2 : BoolPost (okD D) = fun w en w' => en = .returned (.bool false) ∧ Below w.heap.size w w' := by unfold BoolPost; rw [hok']
    change Hid (∀ w, Calls Tryz.prog _ _ w (BoolPost (okD D) w)) at HC1
    rw [e2] at HC1
    have HR := Lib.hid (intL_bad L (by rw [hD]; exact hok'))
    clear hL hD hm hT e1 e2 hok hok' HC2
    go_enter Tryz.func61, Tryz.ntmps61
    go_wp2_with fail
    refine (HC.out _).mono ?_
    rintro e w1 ⟨rfl, hw⟩
    obtain rfl := hw.symm
    go_wp2_with fail
    refine (HC1.out _).mono ?_
    rintro e w2 ⟨rfl, hb2⟩
    go_wp2
    go_ret2
    exact intPost_mk (a := []) HR.out hb2
theorem int_c (s : ByteArray) (a : List UInt8) (b : Bool) (h : intL s.data.toList = (a, b)) (w : World) :
    Calls Tryz.prog 61 #[.string s] w fun en w' => en = .returned (.tuple #[.string ⟨a.toArray⟩, .bool b]) ∧ Below w.heap.size w w' :=
  (int_any s w).mono fun _ _ h2 => by unfold IntPost at h2; rw [h] at h2; exact h2
end Go.Proofs.YtjbdldbjefmnjaaGreatDoor
namespace Go.Proofs.YtjbdldbjefmnjaaGreatDoor
open Go Go.RowKit Go.Proofs.BerK Go.Proofs.MemK Go.Proofs.UtfK

def toldB (l : List UInt8) : Bool := decide (intL l = (l, true))

theorem lessL_no (a b : List UInt8) (h : toldB a = false ∨ toldB b = false) : lessL a b = ltB a b := by
  rw [lessL, if_neg]
  rintro ⟨h1, h2⟩
  simp [toldB, h1, h2] at h
theorem lessL_yes (a b : List UInt8) (h1 : toldB a = true) (h2 : toldB b = true) : lessL a b = lsC (hasM a) (digs a) (hasM b) (digs b) := by
  rw [lessL, if_pos (by simpa [toldB] using And.intro h1 h2)]; rfl

theorem cut_c (s : ByteArray) (D : List UInt8) (m : Bool) (h1 : digs s.data.toList = D) (h2 : hasM s.data.toList = m) (w : World) : Calls Tryz.prog 69 #[.string s, .string ⟨#[45]⟩] w fun en w' => en = .returned (.tuple #[.string ⟨D.toArray⟩, .bool m]) ∧ w' = w :=
  (cut_any s w).mono fun _ _ h => by unfold CutPost at h; rw [h1, h2] at h; exact h

end Go.Proofs.YtjbdldbjefmnjaaGreatDoor
