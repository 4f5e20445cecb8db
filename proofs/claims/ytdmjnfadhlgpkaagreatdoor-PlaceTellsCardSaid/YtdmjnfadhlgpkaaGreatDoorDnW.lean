/- What stands behind a backslash, and a value's text read, for every text. -/
import Derived.Test.YtdmjnfadhlgpkaaGreatDoorDnV
import Derived.Test.YtdmjnfadhlgpkaaGreatDoorDnD
namespace Go.Proofs.YtdmjnfadhlgpkaaGreatDoor
set_option linter.unusedSimpArgs false
set_option linter.unusedVariables false
open Go Go.RowKit Go.Proofs.BerK Go.Proofs.MemK Go.Proofs.UtfK

set_option maxHeartbeats 1600000 in
set_option maxRecDepth 100000 in
theorem pu_ok (s : ByteArray) (hs : s.size = 2) (h1 : hxN (s[0]'(by omega)).toNat < 16) (h2 : hxN (s[1]'(by omega)).toNat < 16) (w : World) :
    Calls Tryz.prog 114 #[.string s, .int .i64 16, .int .i64 8] w fun e w' => e = .returned (.tuple #[.int .u64 ((16 * hxN (s[0]'(by omega)).toNat + hxN (s[1]'(by omega)).toNat : Nat) : Int), .nilIface]) ∧ Below w.heap.size w w' := by
  have HC := Lib.hid (ipu_any s hs w)
  rw [puVal_ok h1 h2] at HC
  obtain ⟨n, hn⟩ : ∃ n : Int, ((16 * hxN (s[0]'(by omega)).toNat + hxN (s[1]'(by omega)).toNat : Nat) : Int) = n := ⟨_, rfl⟩
  rw [hn] at HC ⊢
  clear hn h1 h2
  go_enter Tryz.func114, Tryz.ntmps114
  go_wp2_with fail
  refine HC.out.mono ?_
  rintro e w1 ⟨rfl, hb⟩
  go_wp2
  go_ret2
  exact ⟨rfl, hb⟩
set_option maxHeartbeats 1600000 in
set_option maxRecDepth 100000 in
theorem pu_no (s : ByteArray) (hs : s.size = 2) (h : ¬ (hxN (s[0]'(by omega)).toNat < 16 ∧ hxN (s[1]'(by omega)).toNat < 16)) (w : World) (he : ErrOk w) :
    Calls Tryz.prog 114 #[.string s, .int .i64 16, .int .i64 8] w fun e w' => (∃ N, e = .returned (.tuple #[.int .u64 0, .iface 143 (.pointer (some ⟨N, 0, none⟩))])) ∧ Below w.heap.size w w' := by
  have HC := Lib.hid (ipu_any s hs w)
  rw [puVal_no h] at HC
  have HT := Lib.hid (fun w' (hb : Below w.heap.size w w') => toerr_any ⟨#[80, 97, 114, 115, 101, 85, 105, 110, 116]⟩ s 16 8 (by omega) w' (errOk_below he hb))
  clear h he
  go_enter Tryz.func114, Tryz.ntmps114
  go_wp2_with fail
  refine HC.out.mono ?_
  rintro e w1 ⟨rfl, hb⟩
  have HT1 := Lib.hid (HT.out w1 hb)
  have HB := Lib.hid hb
  clear hb
  go_wp2_with fail
  refine HT1.out.mono ?_
  rintro e w2 ⟨⟨N, rfl⟩, hb2⟩
  go_wp2
  go_ret2
  exact ⟨⟨N, rfl⟩, HB.out.trans (hb2.mono HB.out.size)⟩

/-! ### readMarked -/
def RmV : Option (UInt8 × Nat) → Value
  | none => .tuple #[.int .u8 0, .int .i64 0]
  | some (c, n) => .tuple #[.int .u8 (c.toNat : Nat), .int .i64 (n : Nat)]
def RmPost (o : Option (UInt8 × Nat)) (w : World) (en : Ending) (w' : World) : Prop := en = .returned (RmV o) ∧ Below w.heap.size w w'
theorem list_two (s : ByteArray) (h : 2 ≤ s.size) : s.data.toList = s[0] :: s[1] :: s.data.toList.drop 2 := by
  have hl := len_list s
  have h0 := drop_at s.data.toList 0 (by omega)
  have h1 := drop_at s.data.toList 1 (by omega)
  rw [List.drop_zero, at_list s 0 (by omega)] at h0
  rw [at_list s 1 (by omega)] at h1
  rw [h1] at h0
  exact h0
theorem ext_two (s : ByteArray) (h : 2 ≤ s.size) : s.extract 0 2 = ⟨#[s[0], s[1]]⟩ := by
  have h1 : (s.extract 0 2).data.toList = [s[0], s[1]] := by
    rw [Lib.extract_data, List.drop_zero, list_two s h]; rfl
  rw [← mk_list (s.extract 0 2), h1]

set_option maxHeartbeats 3200000 in
set_option maxRecDepth 100000 in
theorem dmarked_any (s : ByteArray) (w : World) (he : ErrOk w) :
    Calls Tryz.prog 104 #[.string s] w (RmPost (rmL s.data.toList) w) := by
  by_cases h0 : s.size = 0
  · have hem := str_e s h0
    have hn : s.data.toList = [] := List.eq_nil_of_length_eq_zero (by rw [len_list]; exact h0)
    have H := Lib.hid (show rmL s.data.toList = none by rw [hn]; rfl)
    clear hn h0 he
    go_enter Tryz.func104, Tryz.ntmps104
    go_wp2
    go_ret2
    exact ⟨by rw [H.out]; rfl, Below.refl _ _⟩
  have hem := str_ne s (by omega)
  have hp : 0 < s.size := by omega
  have hpi : (0 : Int) < (s.size : Int) := by omega
  have hcut := list_cut s hp
  have hb : s[0].toNat < 256 := s[0].toNat_lt
  have HM := Lib.hid (idx_mayN s[0].toNat hb)
  have HI := Lib.hid (sidx_any ⟨#[44, 43, 34, 92, 60, 62, 59, 61, 32, 35]⟩ (s[0].toNat : Nat))
  change Hid (∀ w, Calls Tryz.prog _ _ w (PureI (Lib.indexByte [44, 43, 34, 92, 60, 62, 59, 61, 32, 35] (UInt8.ofNat s[0].toNat)) w)) at HI
  obtain ⟨ix, hix⟩ : ∃ ix, Lib.indexByte [44, 43, 34, 92, 60, 62, 59, 61, 32, 35] (UInt8.ofNat s[0].toNat) = ix := ⟨_, rfl⟩
  rw [hix] at HM HI
  clear hix
  by_cases hm : mayN s[0].toNat = true
  · have hix : (0 : Int) ≤ ix := by have := HM.out; rw [hm] at this; simpa using this
    have H := Lib.hid (show rmL s.data.toList = some (s[0], 1) by rw [hcut, rmL_may _ _ hm])
    obtain ⟨x, hx⟩ : ∃ x, s[0] = x := ⟨_, rfl⟩
    rw [hx] at H HI hb
    clear hm hcut h0 he HM
    go_enter Tryz.func104, Tryz.ntmps104
    go_wp2_with fail
    refine (HI.out _).mono ?_
    rintro e w1 ⟨rfl, hw⟩
    obtain rfl := hw.symm
    go_wp2
    go_ret2
    exact ⟨by rw [H.out]; rfl, Below.refl _ _⟩
  have hix : ix < 0 := by have := HM.out; simp only [Bool.not_eq_true] at hm; rw [hm] at this; simpa using this
  by_cases h2 : s.size < 2
  · have hnil : (s.extract 1 s.size).data.toList = [] := by rw [Lib.extract_to_end, List.drop_of_length_le (by rw [len_list]; omega)]
    have H := Lib.hid (show rmL s.data.toList = none by rw [hcut, hnil, rmL_one _ hm])
    have h2i : (s.size : Int) < 2 := by omega
    obtain ⟨x, hx⟩ : ∃ x, s[0] = x := ⟨_, rfl⟩
    rw [hx] at HI hb
    clear hm hcut h0 he HM h2 hnil
    go_enter Tryz.func104, Tryz.ntmps104
    go_wp2_with fail
    refine (HI.out _).mono ?_
    rintro e w1 ⟨rfl, hw⟩
    obtain rfl := hw.symm
    go_wp2
    go_ret2
    exact ⟨by rw [H.out]; rfl, Below.refl _ _⟩
  · have h2i : (2 : Int) ≤ (s.size : Int) := by omega
    have hl2 := list_two s (by omega)
    have hx2 := ext_two s (by omega)
    have hy8 : s[1].toNat < 256 := s[1].toNat_lt
    obtain ⟨x, hx⟩ : ∃ x, s[0] = x := ⟨_, rfl⟩
    obtain ⟨y, hy⟩ : ∃ y, s[1] = y := ⟨_, rfl⟩
    rw [hx, hy] at hl2 hx2
    rw [hx] at hm hb HI
    rw [hy] at hy8
    by_cases hh : hxN x.toNat < 16 ∧ hxN y.toNat < 16
    · have H := Lib.hid (show rmL s.data.toList = some (UInt8.ofNat (16 * hxN x.toNat + hxN y.toNat), 2) by rw [hl2, rmL_two _ _ _ hm, if_pos hh])
      have HP := Lib.hid (fun w => pu_ok ⟨#[x, y]⟩ rfl hh.1 hh.2 w)
      have hn : 16 * hxN x.toNat + hxN y.toNat < 256 := by omega
      change Hid (∀ w, Calls Tryz.prog _ _ w fun e w' => e = .returned (.tuple #[.int .u64 ((16 * hxN x.toNat + hxN y.toNat : Nat) : Int), .nilIface]) ∧ Below w.heap.size w w') at HP
      obtain ⟨n, hnn⟩ : ∃ n, 16 * hxN x.toNat + hxN y.toNat = n := ⟨_, rfl⟩
      rw [hnn] at H HP hn
      have hn0 : (n : Int) < 256 := by omega
      have hu : (UInt8.ofNat n).toNat = n := by rw [UInt8.toNat_ofNat']; omega
      have HU := Lib.hid hu
      clear hm hcut h0 he HM hl2 hh hnn hu
      go_enter Tryz.func104, Tryz.ntmps104
      go_wp2_with fail
      refine (HI.out _).mono ?_
      rintro e w1 ⟨rfl, hw⟩
      obtain rfl := hw.symm
      go_wp2_with fail
      refine (HP.out _).mono ?_
      rintro e w2 ⟨rfl, hb2⟩
      go_wp2
      go_ret2
      exact ⟨by rw [H.out, RmV, HU.out]; rfl, hb2⟩
    · have H := Lib.hid (show rmL s.data.toList = none by rw [hl2, rmL_two _ _ _ hm, if_neg hh])
      have HP := Lib.hid (fun w he => pu_no ⟨#[x, y]⟩ rfl hh w he)
      have HE := Lib.hid he
      clear hm hcut h0 he HM hl2 hh
      go_enter Tryz.func104, Tryz.ntmps104
      go_wp2_with fail
      refine (HI.out _).mono ?_
      rintro e w1 ⟨rfl, hw⟩
      obtain rfl := hw.symm
      go_wp2_with fail
      refine (HP.out _ HE.out).mono ?_
      rintro e w2 ⟨⟨N, rfl⟩, hb2⟩
      go_wp2
      go_ret2
      exact ⟨by rw [H.out]; rfl, hb2⟩
end Go.Proofs.YtdmjnfadhlgpkaaGreatDoor
