/- strings.Cut at an equals sign, strings.Trim and TrimLeft at a blank, for every text. -/
import Derived.Test.YtlopmppiihhnnaaGreatDoorDnB
import Derived.Test.YtlopmppiihhnnaaGreatDoorDnP
import Derived.BigQuiet
namespace Go.Proofs.YtlopmppiihhnnaaGreatDoor
set_option linter.unusedSimpArgs false
set_option linter.unusedVariables false
open Go Go.RowKit Go.Proofs.BerK Go.Proofs.MemK Go.Proofs.UtfK

theorem ix_ways (l : List UInt8) (c : UInt8) : (Lib.indexByte l c = -1 ∧ cut1 c l = l ∧ cut2 c l = []) ∨ ∃ k : Nat, Lib.indexByte l c = (k : Nat) ∧ k < l.length ∧ cut1 c l = l.take k ∧ cut2 c l = l.drop (k + 1) := by
  induction l with
  | nil => exact .inl ⟨rfl, rfl, rfl⟩
  | cons b r ih =>
    by_cases h : b = c
    · refine .inr ⟨0, ?_, by simp, ?_, ?_⟩
      · simp [Lib.indexByte, h]
      · simp [cut1, h]
      · simp [cut2, h]
    · rcases ih with ⟨h1, h2, h3⟩ | ⟨k, h1, h2, h3, h4⟩
      · refine .inl ⟨?_, ?_, ?_⟩
        · simp [Lib.indexByte, h, h1]
        · simp [cut1, h] at h2 ⊢; exact h2
        · simp [cut2, h] at h3 ⊢; exact h3
      · refine .inr ⟨k + 1, ?_, by simp; omega, ?_, ?_⟩
        · have : ¬ Lib.indexByte r c = -1 := by omega
          simp [Lib.indexByte, h, h1, this] <;> omega
        · simp [cut1, h] at h3 ⊢; exact h3
        · simp [cut2, h] at h4 ⊢; exact h4

set_option maxHeartbeats 1000000 in
set_option maxRecDepth 100000 in
theorem slindex_any (s : ByteArray) (w : World) : Calls Tryz.prog 100 #[.string s, .string ⟨#[61]⟩] w (PureI (Lib.indexByte s.data.toList 61) w) := by
  have HC := Lib.hid (slidx_any s 61)
  by_cases h : s.data.toList = [61]
  · have ht : ([61] == s.toList) = true := by rw [ByteArray.toList_eq, h]; rfl
    have H := Lib.hid (show Lib.indexByte s.data.toList 61 = 0 by rw [h]; rfl)
    clear h HC
    go_enter Tryz.func100, Tryz.ntmps100
    go_wp2
    go_ret
    exact ⟨by rw [H.out]; rfl, rfl⟩
  · have ht : ([61] == s.toList) = false := by rw [ByteArray.toList_eq, beq_eq_false_iff_ne]; exact fun hh => h hh.symm
    clear h
    go_enter Tryz.func100, Tryz.ntmps100
    go_wp2_with fail
    refine (HC.out _).mono ?_
    rintro e w1 ⟨rfl, hw⟩
    obtain rfl := hw.symm
    go_wp2
    go_ret
    exact ⟨rfl, rfl⟩

def CutP (l : List UInt8) (w : World) (en : Ending) (w' : World) : Prop := (∃ b, en = .returned (.tuple #[.string ⟨(cut1 61 l).toArray⟩, .string ⟨(cut2 61 l).toArray⟩, .bool b])) ∧ Below w.heap.size w w'
set_option maxHeartbeats 1000000 in
set_option maxRecDepth 100000 in
theorem slcut_any (s : ByteArray) (hs : s.size ≤ 140737488355328) (w : World) : Calls Tryz.prog 74 #[.string s, .string ⟨#[61]⟩] w (CutP s.data.toList w) := by
  have HC := Lib.hid (slindex_any s)
  have hl := len_list s
  rcases ix_ways s.data.toList 61 with ⟨h1, h2, h3⟩ | ⟨k, h1, h2, h3, h4⟩
  · rw [h1] at HC
    have H := Lib.hid (And.intro h2 h3)
    clear h1 h2 h3 hl
    go_enter Tryz.func74, Tryz.ntmps74
    go_wp2_with fail
    refine (HC.out _).mono ?_
    rintro e w1 ⟨rfl, hw⟩
    obtain rfl := hw.symm
    go_wp2
    go_ret3
    refine ⟨⟨false, ?_⟩, Below.refl _ _⟩
    rw [H.out.1, H.out.2, mk_list]
    rfl
  · rw [h1] at HC
    have H := Lib.hid (And.intro h3 h4)
    have q0 : (0 : Int) ≤ (k : Int) := by omega
    have q1 : (k : Int) ≤ (s.size : Int) := by omega
    have q2 : (k : Int) + 1 ≤ (s.size : Int) := by omega
    have q3 : (0 : Int) ≤ (k : Int) + 1 := by omega
    have q4 : (k : Int) < (s.size : Int) := by omega
    have hW : IntKind.i64.wrap ((k : Int) + 1) = (k : Int) + 1 := by rw [IntKind.wrap_i64]; omega
    have e1 : s.extract 0 k = ⟨(cut1 61 s.data.toList).toArray⟩ := by rw [← mk_list (s.extract 0 k), Lib.extract_data, List.drop_zero, h3]; rfl
    have e2 : s.extract (k + 1) s.size = ⟨(cut2 61 s.data.toList).toArray⟩ := by rw [← mk_list (s.extract (k + 1) s.size), Lib.extract_to_end, h4]
    clear h1 h2 h3 h4 hl
    go_enter Tryz.func74, Tryz.ntmps74
    go_wp2_with fail
    refine (HC.out _).mono ?_
    rintro e w1 ⟨rfl, hw⟩
    obtain rfl := hw.symm
    go_wp2
    go_quiet (fail)
    go_wp2
    go_ret3
    exact ⟨⟨_, rfl⟩, below_dn (Below.refl _ _) nq⟩
set_option maxHeartbeats 1000000 in
theorem scut_any (s : ByteArray) (hs : s.size ≤ 140737488355328) (w : World) : Calls Tryz.prog 52 #[.string s, .string ⟨#[61]⟩] w (CutP s.data.toList w) := by
  have HC := Lib.hid (slcut_any s hs)
  go_enter Tryz.func52, Tryz.ntmps52
  go_wp2_with fail
  refine (HC.out _).mono ?_
  rintro e w1 ⟨⟨b, rfl⟩, hb⟩
  go_wp2
  go_ret3
  exact ⟨⟨b, rfl⟩, hb⟩

/-! ### Blanks at the ends -/
theorem tlB_cons (c : UInt8) (l : List UInt8) : tlB (c :: l) = if c = 32 then tlB l else c :: l := by
  unfold tlB
  by_cases h : c = 32 <;> simp [h]
theorem trB_snoc (l : List UInt8) (c : UInt8) : trB (l ++ [c]) = if c = 32 then trB l else l ++ [c] := by
  unfold trB
  by_cases h : c = 32 <;> simp [h]
def PureS (l : List UInt8) (w : World) (en : Ending) (w' : World) : Prop := en = .returned (.string ⟨l.toArray⟩) ∧ w' = w
theorem pureS_mk {l : List UInt8} {x : ByteArray} {w : World} (h1 : l = x.data.toList) : PureS l w (.returned (.string x)) w := by
  refine ⟨?_, rfl⟩
  rw [h1, mk_list]
theorem list_last (x : ByteArray) (h : 0 < x.size) : x.data.toList = (x.extract 0 (x.size - 1)).data.toList ++ [x[x.size - 1]] := by
  have hl := len_list x
  rw [Lib.extract_data, List.drop_zero]
  have h2 := take_snoc x (x.size - 1) (by omega)
  rw [show x.size - 1 + 1 = x.size by omega, List.take_of_length_le (by omega)] at h2
  exact h2

set_option maxHeartbeats 800000 in
set_option maxRecDepth 100000 in
theorem trimlb_any (s : ByteArray) (w : World) : Calls Tryz.prog 54 #[.string s, .int .u8 32] w (PureS (tlB s.data.toList) w) := by
  obtain ⟨L, hL⟩ : ∃ L, s.data.toList = L := ⟨_, rfl⟩
  rw [hL]
  go_enter Tryz.func54, Tryz.ntmps54
  go_wp2
  go_loop [0] (fun v => ∃ x : ByteArray, v = .string x ∧ tlB x.data.toList = tlB L) (fun v => strSz v)
  case atStart => exact ⟨s, rfl, by rw [hL]⟩
  case round =>
    obtain ⟨x, rfl, hx⟩ := hrel
    by_cases h : x.size = 0
    · have hn : x.data.toList = [] := List.eq_nil_of_length_eq_zero (by rw [len_list]; exact h)
      rw [hn] at hx
      have H := Lib.hid (hx.symm.trans (show tlB [] = x.data.toList by rw [hn]; rfl))
      clear hx hn
      go_wp2
      go_ret
      exact pureS_mk H.out
    · have hp : 0 < x.size := by omega
      have h1 : 1 ≤ x.size := hp
      have h2 : (0 : Int) < (x.size : Int) := by omega
      have h3 : (1 : Int) ≤ (x.size : Int) := by omega
      have hcut := list_cut x hp
      rw [hcut, tlB_cons] at hx
      have hb := x[0].toNat_lt
      by_cases h0 : x[0] = 32
      · rw [if_pos h0] at hx
        have ht : ((x[0].toNat : Int) == 32) = true := by rw [h0]; rfl
        have H := Lib.hid hx
        obtain ⟨c, hc⟩ : ∃ c, x[0].toNat = c := ⟨_, rfl⟩
        rw [hc] at ht hb
        clear hx hcut h0 h
        go_wp2
        refine ⟨⟨_, rfl, H.out⟩, ?_⟩
        show (x.extract 1 x.size).size < x.size
        rw [← len_list (x.extract 1 x.size), Lib.extract_to_end, List.length_drop, len_list]; omega
      · rw [if_neg h0] at hx
        have ht : ((x[0].toNat : Int) == 32) = false := by
          rw [beq_eq_false_iff_ne]; intro hh; apply h0; apply UInt8.toNat_inj.1; show _ = 32; omega
        rw [← hcut] at hx
        have H := Lib.hid hx
        clear hx hcut h0 h
        go_wp2
        go_ret
        exact pureS_mk H.out.symm

set_option maxHeartbeats 800000 in
set_option maxRecDepth 100000 in
theorem trimrb_any (s : ByteArray) (hs : s.size ≤ 140737488355328) (w : World) : Calls Tryz.prog 121 #[.string s, .int .u8 32] w (PureS (trB s.data.toList) w) := by
  obtain ⟨L, hL⟩ : ∃ L, s.data.toList = L := ⟨_, rfl⟩
  rw [hL]
  go_enter Tryz.func121, Tryz.ntmps121
  go_wp2
  go_loop [0] (fun v => ∃ x : ByteArray, v = .string x ∧ x.size ≤ 140737488355328 ∧ trB x.data.toList = trB L) (fun v => strSz v)
  case atStart => exact ⟨s, rfl, hs, by rw [hL]⟩
  case round =>
    obtain ⟨x, rfl, hxs, hx⟩ := hrel
    by_cases h : x.size = 0
    · have hn : x.data.toList = [] := List.eq_nil_of_length_eq_zero (by rw [len_list]; exact h)
      rw [hn] at hx
      have H := Lib.hid (hx.symm.trans (show trB [] = x.data.toList by rw [hn]; rfl))
      clear hx hn
      go_wp2
      go_ret
      exact pureS_mk H.out
    · have hp : 0 < x.size := by omega
      obtain ⟨n, hn⟩ : ∃ n, x.size = n + 1 := ⟨x.size - 1, by omega⟩
      have hcut := list_last x hp
      have hlast : x[x.size - 1] = x[n]'(by omega) := by congr 1; omega
      rw [hcut, trB_snoc, hlast] at hx
      rw [hlast] at hcut
      have hb := (x[n]'(by omega)).toNat_lt
      have hextr : x.extract 0 (x.size - 1) = x.extract 0 n := by rw [hn]; rfl
      rw [hextr] at hx hcut
      by_cases h0 : x[n]'(by omega) = 32
      · rw [if_pos h0] at hx
        have ht : (((x[n]'(by omega)).toNat : Int) == 32) = true := by rw [h0]; rfl
        have hz : (x.extract 0 n).size = n := by rw [← len_list (x.extract 0 n), Lib.extract_data, List.drop_zero, List.length_take, len_list]; omega
        have H := Lib.hid (And.intro hx hz)
        clear hx hcut h0 h hlast hextr hz
        go_wp2
        refine ⟨⟨_, rfl, by rw [H.out.2]; omega, H.out.1⟩, ?_⟩
        show (x.extract 0 n).size < x.size
        rw [H.out.2, hn]; omega
      · rw [if_neg h0] at hx
        have ht : (((x[n]'(by omega)).toNat : Int) == 32) = false := by
          rw [beq_eq_false_iff_ne]; intro hh; apply h0; apply UInt8.toNat_inj.1; show _ = 32; omega
        rw [← hcut] at hx
        have H := Lib.hid hx
        clear hx hcut h0 h hlast hextr
        go_wp2
        go_ret
        exact pureS_mk H.out.symm

set_option maxHeartbeats 800000 in
set_option maxRecDepth 100000 in
theorem triml_any (s : ByteArray) (w : World) : Calls Tryz.prog 37 #[.string s, .string ⟨#[32]⟩] w (PureS (tlB s.data.toList) w) := by
  by_cases h0 : s.size = 0
  · have hem := str_e s h0
    have hn : s.data.toList = [] := List.eq_nil_of_length_eq_zero (by rw [len_list]; exact h0)
    have H := Lib.hid (show tlB s.data.toList = s.data.toList by rw [hn]; rfl)
    clear hn h0
    go_enter Tryz.func37, Tryz.ntmps37
    go_wp2
    go_ret
    exact pureS_mk H.out
  · have hem := str_ne s (by omega)
    have HC := Lib.hid (trimlb_any s)
    clear h0
    go_enter Tryz.func37, Tryz.ntmps37
    go_wp2_with fail
    refine (HC.out _).mono ?_
    rintro e w1 ⟨rfl, hw⟩
    obtain rfl := hw.symm
    go_wp2
    go_ret
    exact ⟨rfl, rfl⟩
theorem trB_len (l : List UInt8) : (trB l).length ≤ l.length := by
  unfold trB
  rw [List.length_reverse]
  exact Nat.le_trans (List.dropWhile_sublist _).length_le (by simp)
theorem tlB_len (l : List UInt8) : (tlB l).length ≤ l.length := (List.dropWhile_sublist _).length_le
set_option maxHeartbeats 800000 in
set_option maxRecDepth 100000 in
theorem trim32_any (s : ByteArray) (hs : s.size ≤ 140737488355328) (w : World) : Calls Tryz.prog 103 #[.string s, .string ⟨#[32]⟩] w (StrPost (tlB (trB s.data.toList)) w) := by
  by_cases h0 : s.size = 0
  · have hem := str_e s h0
    have hn : s.data.toList = [] := List.eq_nil_of_length_eq_zero (by rw [len_list]; exact h0)
    have H := Lib.hid (show tlB (trB s.data.toList) = s.data.toList by rw [hn]; rfl)
    clear hn h0
    go_enter Tryz.func103, Tryz.ntmps103
    go_wp2
    go_ret
    exact ⟨by rw [H.out, mk_list]; rfl, Below.refl _ _⟩
  · have hem := str_ne s (by omega)
    have HR := Lib.hid (trimrb_any s hs)
    have HL := Lib.hid (trimlb_any ⟨(trB s.data.toList).toArray⟩)
    change Hid (∀ w, Calls Tryz.prog _ _ w (PureS (tlB (trB s.data.toList)) w)) at HL
    obtain ⟨R, hR⟩ : ∃ R, trB s.data.toList = R := ⟨_, rfl⟩
    rw [hR] at HR HL ⊢
    clear h0 hR
    go_enter Tryz.func103, Tryz.ntmps103
    go_wp2
    go_quiet (first | (go_at_call 121; exact Calls.quiet_of_same (HR.out _)) | (go_at_call 54; exact Calls.quiet_of_same (HL.out _)))
    go_wp2
    go_ret
    exact ⟨rfl, below_dn (Below.refl _ _) nq⟩
end Go.Proofs.YtlopmppiihhnnaaGreatDoor
