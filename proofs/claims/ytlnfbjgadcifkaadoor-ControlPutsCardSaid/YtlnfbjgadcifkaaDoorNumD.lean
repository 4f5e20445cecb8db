/- The document's Read tells the number of any bytes, or the error, as the plain function nr does. -/
import Derived.Test.YtlnfbjgadcifkaaDoorNumC
namespace Go.Proofs.YtlnfbjgadcifkaaDoor
open Go.RowKit Go.Proofs.NumM Go.Proofs.BerK

theorem emptyS (s : ByteArray) (h : 0 < s.size) : s.toList.isEmpty = false := by
  rw [ByteArray.toList_eq]
  cases hl : s.data.toList with
  | nil => rw [← len_listN, hl] at h; simp at h
  | cons a l => rfl

set_option maxHeartbeats 400000 in
set_option maxRecDepth 100000 in
theorem rnread_none (s : ByteArray) (w : World) (h0 : s.size = 0) :
    Calls Tryd.prog 34 #[.string s] w fun e w' => e = .returned (nrV s.data.toList) ∧ w = w' := by
  have hv : ((0 : Int), 4) = nr s.data.toList := by rw [nr, len_listN, if_pos h0]
  have hl : s.toList.isEmpty = true := by
    have h1 : s.data.toList = [] := List.eq_nil_of_length_eq_zero (by rw [len_listN]; exact h0)
    rw [ByteArray.toList_eq, h1]; rfl
  have HV := Lib.hid hv
  clear hv h0
  go_enter Tryd.func34, Tryd.ntmps34
  go_wp2
  go_ret2
  exact ⟨ret_nr HV.out, rfl⟩

/-- The document's test of a form that is too long. -/
theorem badB (s : ByteArray) (h : 1 < s.size) : short s.data.toList = false ↔ (s[0].toNat = 0 ∧ s[1].toNat < 128 ∨ s[0].toNat = 255 ∧ 128 ≤ s[1].toNat) := by
  rw [short, len_listN, if_neg (by omega), at_getN s 1 h, at_getN s 0 (by omega)]
  split <;> simp <;> omega

set_option maxHeartbeats 800000 in
set_option maxRecDepth 100000 in
theorem rnread_form (s : ByteArray) (w : World) (h0 : 1 < s.size) (hs : short s.data.toList = false) :
    Calls Tryd.prog 34 #[.string s] w fun e w' => e = .returned (nrV s.data.toList) ∧ w = w' := by
  have hv : ((0 : Int), 5) = nr s.data.toList := by rw [nr, len_listN, if_neg (by omega), if_pos hs]
  have HV := Lib.hid hv
  have hl := emptyS s (by omega)
  have hc := (badB s h0).1 hs
  have h8 : s[0].toNat < 256 := s[0].toNat_lt
  have h9 : s[1].toNat < 256 := s[1].toNat_lt
  clear hv hs
  rcases hc with ⟨h1, h2⟩ | ⟨h1, h2⟩
  · have q1 : ((s[0].toNat : Int) == 0) = true := by simp [h1]
    clear h1
    go_enter Tryd.func34, Tryd.ntmps34
    go_wp2
    go_ret2
    exact ⟨ret_nr HV.out, rfl⟩
  · have q1 : ((s[0].toNat : Int) == 0) = false := by simp [h1]
    have q2 : ((s[0].toNat : Int) == 255) = true := by simp [h1]
    clear h1
    go_enter Tryd.func34, Tryd.ntmps34
    go_wp2
    go_ret2
    exact ⟨ret_nr HV.out, rfl⟩

/-- What a text whose form may be is like, as far as the document's test asks. -/
theorem goodB (s : ByteArray) (h0 : 0 < s.size) (hs : short s.data.toList = true) :
    s.size = 1 ∨ (∃ h : 1 < s.size, ((s[0].toNat : Int) == 0) = true ∧ 128 ≤ s[1].toNat) ∨ (∃ h : 1 < s.size, ((s[0].toNat : Int) == 0) = false ∧ ((s[0].toNat : Int) == 255) = true ∧ s[1].toNat < 128) ∨ (1 < s.size ∧ ((s[0].toNat : Int) == 0) = false ∧ ((s[0].toNat : Int) == 255) = false) := by
  by_cases h1 : s.size = 1
  · exact .inl h1
  · have h2 : 1 < s.size := by omega
    have hb := (not_congr (badB s h2)).1 (by simp [hs])
    by_cases a : s[0].toNat = 0
    · exact .inr (.inl ⟨h2, by simp [a], by omega⟩)
    · by_cases b : s[0].toNat = 255
      · exact .inr (.inr (.inl ⟨h2, by simp [b], by simp [b], by omega⟩))
      · exact .inr (.inr (.inr ⟨h2, by simp; omega, by simp; omega⟩))

set_option maxHeartbeats 800000 in
set_option maxRecDepth 100000 in
theorem rnread_long (s : ByteArray) (w : World) (h0 : 4 < s.size) (hs : short s.data.toList = true) :
    Calls Tryd.prog 34 #[.string s] w fun e w' => e = .returned (nrV s.data.toList) ∧ w = w' := by
  have hv : ((0 : Int), 3) = nr s.data.toList := by rw [nr, len_listN, if_neg (by omega), if_neg (by simp [hs]), if_pos h0]
  have HV := Lib.hid hv
  have hl := emptyS s (by omega)
  have hc := goodB s (by omega) hs
  have h8 : s[0].toNat < 256 := s[0].toNat_lt
  clear hv hs
  rcases hc with h1 | ⟨h1, q1, h2⟩ | ⟨h1, q1, q2, h2⟩ | ⟨h1, q1, q2⟩
  · omega
  · have h9 : s[1].toNat < 256 := s[1].toNat_lt
    have q2 : ((s[0].toNat : Int) == 255) = false := by simp at q1 ⊢; omega
    go_enter Tryd.func34, Tryd.ntmps34
    go_wp2
    go_ret2
    exact ⟨ret_nr HV.out, rfl⟩
  · have h9 : s[1].toNat < 256 := s[1].toNat_lt
    go_enter Tryd.func34, Tryd.ntmps34
    go_wp2
    go_ret2
    exact ⟨ret_nr HV.out, rfl⟩
  · go_enter Tryd.func34, Tryd.ntmps34
    go_wp2
    go_ret2
    exact ⟨ret_nr HV.out, rfl⟩

set_option maxHeartbeats 1600000 in
set_option maxRecDepth 100000 in
theorem rnread_ok (s : ByteArray) (w : World) (h0 : 0 < s.size) (h4 : s.size ≤ 4) (hs : short s.data.toList = true) :
    Calls Tryd.prog 34 #[.string s] w fun e w' => e = .returned (nrV s.data.toList) ∧ w = w' := by
  have hv : (sv s.data.toList, 0) = nr s.data.toList := by rw [nr, len_listN, if_neg (by omega), if_neg (by simp [hs]), if_neg (by omega)]
  rw [← svK_all] at hv
  have HV := Lib.hid hv
  have hl := emptyS s h0
  have hc := goodB s h0 hs
  have h8 : s[0].toNat < 256 := s[0].toNat_lt
  clear hv hs
  have hsg : svK s.data.toList 0 = if 128 ≤ s[0].toNat then -1 else 0 := by rw [svK_0, sgn, at_getN s 0 h0]
  have HG := Lib.hid hsg
  clear hsg
  have hc' : (s.size ≤ 1 ∧ 1 ≤ s.size) ∨ (∃ h : 1 < s.size, ((s[0].toNat : Int) == 0) = true ∧ ((s[0].toNat : Int) == 255) = false ∧ 128 ≤ s[1].toNat ∧ s[1].toNat < 256) ∨ (∃ h : 1 < s.size, ((s[0].toNat : Int) == 0) = false ∧ ((s[0].toNat : Int) == 255) = true ∧ s[1].toNat < 128 ∧ s[1].toNat < 256) ∨ (1 < s.size ∧ ((s[0].toNat : Int) == 0) = false ∧ ((s[0].toNat : Int) == 255) = false) := by
    rcases hc with h1 | ⟨h1, q1, h2⟩ | ⟨h1, q1, q2, h2⟩ | h
    · exact .inl (by omega)
    · exact .inr (.inl ⟨h1, q1, by simp at q1 ⊢; omega, h2, s[1].toNat_lt⟩)
    · exact .inr (.inr (.inl ⟨h1, q1, q2, h2, s[1].toNat_lt⟩))
    · exact .inr (.inr (.inr h))
  clear hc
  rcases hc' with ⟨h1, h2⟩ | ⟨h1, q1, q2, h2, h3⟩ | ⟨h1, q1, q2, h2, h3⟩ | ⟨h1, q1, q2⟩
  all_goals
    by_cases q : 128 ≤ s[0].toNat
  all_goals
    first
      | (exfalso; simp at q1 q2; omega)
      | skip
  all_goals
    go_enter Tryd.func34, Tryd.ntmps34
    go_wp2
    go_loop [4, 5] (fun n i => ∃ k : Nat, k ≤ s.size ∧ i = .int .i64 k ∧ n = .int .i64 (svK s.data.toList k)) (fun _ i => s.size - (intOf i).toNat)
    case atStart => exact ⟨0, by omega, rfl, by rw [HG.out]; first | rw [if_pos q] | rw [if_neg q]⟩
    case round =>
      obtain ⟨k, hk, rfl, rfl⟩ := hrel
      by_cases hlt : k < s.size
      · have hb := svK_bd s.data.toList k (by omega)
        have HN := Lib.hid (svK_s s k hlt)
        obtain ⟨m, hm⟩ : ∃ m, svK s.data.toList k = m := ⟨_, rfl⟩
        rw [hm] at hb ⊢
        have HM := Lib.hid hm
        clear hm
        have h8' : s[k].toNat < 256 := s[k].toNat_lt
        go_wp2
        exact ⟨⟨k + 1, by omega, by go_num, by rw [HN.out, HM.out]⟩, by simp [intOf]; omega⟩
      · obtain rfl : k = s.size := by omega
        go_wp2
        go_ret2
        exact ⟨ret_nr HV.out, rfl⟩

theorem rnread_any (s : ByteArray) (w : World) :
    Calls Tryd.prog 34 #[.string s] w fun e w' => e = .returned (nrV s.data.toList) ∧ w = w' := by
  by_cases h0 : s.size = 0
  · exact rnread_none s w h0
  · by_cases hs : short s.data.toList = true
    · by_cases h4 : s.size ≤ 4
      · exact rnread_ok s w (by omega) h4 hs
      · exact rnread_long s w (by omega) hs
    · have hs' : short s.data.toList = false := by simpa using hs
      by_cases h1 : s.size = 1
      · rw [short, len_listN, if_pos h1] at hs'; cases hs'
      · exact rnread_form s w (by omega) hs'
end Go.Proofs.YtlnfbjgadcifkaaDoor
