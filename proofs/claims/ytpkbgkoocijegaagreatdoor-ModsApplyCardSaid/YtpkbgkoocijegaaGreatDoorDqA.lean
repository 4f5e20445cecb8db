/- Single bytes, and types, on both sides. Whether a byte of a value has a backslash ahead, and whether a text may be a type, on both sides. The document's Typed, for every text. -/
import Derived.Test.YtpkbgkoocijegaaGreatDoorFoldAE
import Derived.Test.YtpkbgkoocijegaaGreatDoorPlnA
import Derived.Lib.Bytealg
import Derived.Lib.Walk
set_option linter.unusedVariables false
set_option linter.unusedSimpArgs false
set_option maxHeartbeats 25600000
set_option maxRecDepth 100000
namespace Go.Proofs.YtpkbgkoocijegaaGreatDoor
open Go Go.RowKit Go.Proofs.BerK Go.Proofs.MemK Go.Proofs.UtfK
def PureB (b : Bool) (w : World) (en : Ending) (w' : World) : Prop := en = .returned (.bool b) /\ w' = w
theorem pureB_mk {a b : Bool} {w : World} (h : b = a) : PureB b w (.returned (.bool a)) w := by subst h; exact ⟨rfl, rfl⟩
theorem dlet_any (c : Nat) (w : World) : Calls Tryz.prog 234 #[.int .u8 (c : Nat)] w (PureB (letN c) w) := by
 go_enter Tryz.func234, Tryz.ntmps234
 go_wp2
 all_goals (go_ret; refine pureB_mk ?_; rw [Bool.eq_iff_iff]; simp only [letN, Bool.or_eq_true, Bool.and_eq_true, decide_eq_true_eq, beq_iff_eq, Bool.false_eq_true, iff_false, iff_true] <;> omega)
theorem dbare_any (c : Nat) (w : World) : Calls Tryz.prog 236 #[.int .u8 (c : Nat)] w (PureB (bareN c) w) := by
 go_enter Tryz.func236, Tryz.ntmps236
 go_wp2
 all_goals (go_ret; refine pureB_mk ?_; rw [Bool.eq_iff_iff]; simp only [bareN, Bool.or_eq_true, Bool.and_eq_true, decide_eq_true_eq, beq_iff_eq, Bool.false_eq_true, iff_false, iff_true] <;> omega)
theorem rspec_any (c : Nat) (w : World) : Calls Tryz.prog 187 #[.int .u8 (c : Nat)] w (PureB (spN c) w) := by
 go_enter Tryz.func187, Tryz.ntmps187
 go_wp2
 all_goals (go_ret; refine pureB_mk ?_; rw [Bool.eq_iff_iff]; simp only [spN, Bool.or_eq_true, Bool.and_eq_true, decide_eq_true_eq, beq_iff_eq, Bool.false_eq_true, iff_false, iff_true] <;> omega)
def PureI (n : Int) (w : World) (en : Ending) (w' : World) : Prop := en = .returned (.int .i64 n) /\ w' = w
theorem slidx_any (s : ByteArray) (c : Int) (w : World) : Calls Tryz.prog 267 #[.string s, .int .u8 c] w (PureI (Lib.indexByte s.data.toList c.toNat.toUInt8) w) := by
 go_enter Tryz.func267, Tryz.ntmps267
 go_wp2
 rw [run_callFunc_extern Tryz.func279 (by kernel_rfl) (by kernel_rfl) (by kernel_rfl) (e := Extern.BytealgIndexByte.indexByte) (by kernel_rfl), Lib.run_indexByteString]
 simp only [Result.andThen]
 rw [Oper.upon_value]
 go_wp2
 go_ret
 exact ⟨rfl, rfl⟩
theorem sidx_any (s : ByteArray) (c : Int) (w : World) : Calls Tryz.prog 255 #[.string s, .int .u8 c] w (PureI (Lib.indexByte s.data.toList c.toNat.toUInt8) w) := by
 go_enter Tryz.func255, Tryz.ntmps255
 go_wp2_with (go_at_call 267; refine (slidx_any _ _ _).mono ?_; rintro e w' ⟨rfl, rfl⟩)
 go_ret
 exact ⟨rfl, rfl⟩
theorem idx_sp : ∀ c : Fin 256, decide (0 <= Lib.indexByte [44, 43, 34, 92, 60, 62, 59, 61] (UInt8.ofNat c.val)) = spN c.val := by decide +kernel
theorem idx_may : ∀ c : Fin 256, decide (0 <= Lib.indexByte [44, 43, 34, 92, 60, 62, 59, 61, 32, 35] (UInt8.ofNat c.val)) = mayN c.val := by decide +kernel
theorem idx_spN (c : Nat) (h : c < 256) : decide (0 <= Lib.indexByte [44, 43, 34, 92, 60, 62, 59, 61] (UInt8.ofNat c)) = spN c := idx_sp ⟨c, h⟩
theorem idx_mayN (c : Nat) (h : c < 256) : decide (0 <= Lib.indexByte [44, 43, 34, 92, 60, 62, 59, 61, 32, 35] (UInt8.ofNat c)) = mayN c := idx_may ⟨c, h⟩
theorem mkN_blank (a b : Bool) : mkN a b 32 = (a || b) := rfl
theorem mkN_sharp (a b : Bool) : mkN a b 35 = a := rfl
theorem mkN_else (a b : Bool) (c : Nat) (h : c ≠ 32) (h2 : c ≠ 35) : mkN a b c = spN c := by simp [mkN, h, h2]
theorem dmark_any (s : ByteArray) (i : Nat) (hi : i < s.size) (hs : s.size <= 140737488355328) (w : World) :
  Calls Tryz.prog 237 #[.string s, .int .i64 (i : Nat)] w (PureB (mkN (decide (i = 0)) (decide (i + 1 = s.size)) s[i].toNat) w) := by
 have hb : s[i].toNat < 256 := s[i].toNat_lt
 obtain ⟨c, hc⟩ : ∃ c, s[i].toNat = c := ⟨_, rfl⟩
 rw [hc] at hb
 have h1 : (i : Int) < (s.size : Int) := by omega
 by_cases h32 : c = 32
 ·subst h32
  have q : ((32 : Int) == 32) = true := rfl
  have H := Hy (show mkN (decide (i = 0)) (decide (i + 1 = s.size)) s[i].toNat = (decide (i = 0) || decide (i + 1 = s.size)) by rw [hc]; rfl)
  go_enter Tryz.func237, Tryz.ntmps237
  go_wp2
  all_goals (go_ret; refine pureB_mk ?_; rw [H.out, Bool.eq_iff_iff]; simp only [Bool.or_eq_true, Bool.and_eq_true, decide_eq_true_eq, beq_iff_eq, Bool.false_eq_true, iff_false, iff_true] <;> omega)
 ·have q : ((c : Int) == 32) = false := by rw [beq_eq_false_iff_ne]; omega
  by_cases h35 : c = 35
  ·subst h35
   have H := Hy (show mkN (decide (i = 0)) (decide (i + 1 = s.size)) s[i].toNat = decide (i = 0) by rw [hc]; rfl)
   clear h32
   go_enter Tryz.func237, Tryz.ntmps237
   go_wp2
   all_goals (go_ret; refine pureB_mk ?_; rw [H.out, Bool.eq_iff_iff]; simp only [Bool.or_eq_true, Bool.and_eq_true, decide_eq_true_eq, beq_iff_eq, Bool.false_eq_true, iff_false, iff_true] <;> omega)
  ·have q2 : ((c : Int) == 35) = false := by rw [beq_eq_false_iff_ne]; omega
   have H := Hy (show mkN (decide (i = 0)) (decide (i + 1 = s.size)) s[i].toNat = decide (0 <= Lib.indexByte [44, 43, 34, 92, 60, 62, 59, 61] (UInt8.ofNat c)) by rw [hc, mkN_else _ _ _ h32 h35, idx_spN c hb])
   have HC := Hy (sidx_any ⟨#[44, 43, 34, 92, 60, 62, 59, 61]⟩ (c : Nat))
   clear h32 h35
   go_enter Tryz.func237, Tryz.ntmps237
   go_wp2_with fail
   refine (HC.out _).mono ?_
   rintro e w' ⟨rfl, hw⟩
   obtain rfl := hw.symm
   go_wp2
   go_ret
   exact pureB_mk H.out
theorem tyL_bad (s : ByteArray) (p : Nat) (h : p < s.size) (hd : tcN s[p].toNat = false) : tyL s.data.toList = false := by
 have hl := len_list s
 have : (s.data.toList.all fun c => tcN c.toNat) = false := by
  rw [List.all_eq_false]
  exact ⟨s[p], List.getElem_mem (l := s.data.toList) (n := p) (by omega), by simp [hd]⟩
 simp [tyL, this]
theorem tyL_nil (s : ByteArray) (h : s.size = 0) : tyL s.data.toList = false := by
 have : s.data.toList = [] := List.eq_nil_of_length_eq_zero (by rw [len_list]; exact h)
 rw [this]; rfl
theorem tyL_long (s : ByteArray) (h : 64 < s.size) : tyL s.data.toList = false := by
 have hl := len_list s
 have : decide (s.data.toList.length <= 64) = false := by simp; omega
 simp only [tyL, this, Bool.and_false, Bool.false_and]
theorem hdP_at (p : Nat -> Bool) (s : ByteArray) (h : 0 < s.size) : hdP p s.data.toList = p s[0].toNat := by
 have hh := head_at s h
 cases hq : s.data.toList with
 | nil => rw [hq] at hh; cases hh
 | cons a l => rw [hq] at hh; injection hh with hh; rw [<- hh]; rfl
theorem tyL_head (s : ByteArray) (h : 0 < s.size) (hd : letN s[0].toNat = false) : tyL s.data.toList = false := by
 rw [tyL, hdP_at _ s h, hd]; rfl
theorem tyL_ok (s : ByteArray) (h : 0 < s.size) (h2 : s.size <= 64) (hd : letN s[0].toNat = true) (hall : (s.data.toList.take s.size).all (fun c => tcN c.toNat) = true) : tyL s.data.toList = true := by
 have hl := len_list s
 rw [List.take_of_length_le (by omega)] at hall
 rw [tyL, hdP_at _ s h, hd, hall]
 simp; omega
theorem all_step (s : ByteArray) (k : Nat) (h : k < s.size) (p : UInt8 -> Bool) (h1 : (s.data.toList.take k).all p = true) (h2 : p s[k] = true) : (s.data.toList.take (k + 1)).all p = true := by
 rw [take_snoc s k h, List.all_append, h1]; simp [h2]
theorem tcN_let (c : Nat) (h : letN c = true) : tcN c = true := by simp [tcN, h]
theorem tcN_ways (c : Nat) (h : letN c = false) (h2 : tcN c = true) : (48 <= c /\ c <= 57) \/ c = 45 := by
 simp only [tcN, h, Bool.false_or, Bool.or_eq_true, Bool.and_eq_true, decide_eq_true_eq] at h2; exact h2
theorem tcN_not (c : Nat) (h : letN c = false) (h2 : tcN c = false) : (c < 48 \/ 57 < c) /\ c ≠ 45 := by
 simp only [tcN, h, Bool.false_or, Bool.or_eq_false_iff, Bool.and_eq_false_iff, decide_eq_false_iff_not] at h2; omega
theorem str_ne (s : ByteArray) (h : 0 < s.size) : s.toList.isEmpty = false := by
 rw [ByteArray.toList_eq]
 cases hq : s.data.toList with
 | nil => have := len_list s; rw [hq] at this; simp at this; omega
 | cons a l => rfl
theorem str_e (s : ByteArray) (h : s.size = 0) : s.toList.isEmpty = true := by
 rw [ByteArray.toList_eq]
 have : s.data.toList = [] := List.eq_nil_of_length_eq_zero (by rw [len_list]; exact h)
 rw [this]; rfl
theorem dtype_any (s : ByteArray) (w : World) : Calls Tryz.prog 193 #[.string s] w (PureB (tyL s.data.toList) w) := by
 by_cases h0 : s.size = 0
 ·have hem := str_e s h0
  have H := Hy (tyL_nil s h0)
  clear h0
  go_enter Tryz.func193, Tryz.ntmps193
  go_wp2
  go_ret
  exact pureB_mk H.out
 have hem := str_ne s (by omega)
 by_cases h64 : 64 < s.size
 ·have H := Hy (tyL_long s h64)
  have hq : (64 : Int) < (s.size : Int) := by omega
  clear h0 h64
  go_enter Tryz.func193, Tryz.ntmps193
  go_wp2
  go_ret
  exact pureB_mk H.out
 have hq : (s.size : Int) <= 64 := by omega
 have hq1 : (0 : Int) < (s.size : Int) := by omega
 have hp : 0 < s.size := by omega
 by_cases hl : letN s[0].toNat = true
 ·have HC0 := Hy (dlet_any s[0].toNat)
  rw [hl] at HC0
  have HB := Hy (tyL_bad s)
  have HK := Hy (tyL_ok s hp (by omega) hl)
  clear h0 h64 hl
  go_enter Tryz.func193, Tryz.ntmps193
  go_wp2_with fail
  refine (HC0.out _).mono ?_
  rintro e w1 ⟨rfl, hw⟩
  obtain rfl := hw.symm
  go_wp2
  go_loop [20] (fun v => ∃ k : Nat, k <= s.size /\ v = .int .i64 (k : Nat) /\ (s.data.toList.take k).all (fun c => tcN c.toNat) = true) (fun v => s.size - (intOf v).toNat)
  case atStart => exact ⟨0, by omega, rfl, rfl⟩
  case round =>
   obtain ⟨k, hk, rfl, hall⟩ := hrel
   by_cases hlt : k < s.size
   ·have hb : s[k].toNat < 256 := s[k].toNat_lt
    have hkl : (k : Int) < (s.size : Int) := by omega
    have HC := Hy (dlet_any s[k].toNat)
    by_cases hd : tcN s[k].toNat = true
    ·have H := Hy (all_step s k hlt _ hall hd)
     by_cases hlk : letN s[k].toNat = true
     ·rw [hlk] at HC
      clear hall hd hlk
      go_wp2_with fail
      refine (HC.out _).mono ?_
      rintro e w1 ⟨rfl, hw⟩
      obtain rfl := hw.symm
      go_wp2
      exact ⟨⟨k + 1, by omega, by go_num, H.out⟩, by simp [intOf]; omega⟩
     ·have hlf : letN s[k].toNat = false := by simpa using hlk
      rw [hlf] at HC
      obtain ⟨c, hc⟩ : ∃ c, s[k].toNat = c := ⟨_, rfl⟩
      have hw := tcN_ways c (hc ▸ hlf) (hc ▸ hd)
      have hw' : ((48 : Int) <= (c : Int) /\ (c : Int) <= 57) \/ ((c : Int) < 48 /\ ((c : Int) != 45) = false) := by simp; omega
      clear hall hd hlk hlf hw
      rw [hc] at HC hb
      rcases hw' with ⟨g1, g2⟩ | ⟨g1, g2⟩
      ·go_wp2_with fail
       refine (HC.out _).mono ?_
       rintro e w1 ⟨rfl, hw⟩
       obtain rfl := hw.symm
       go_wp2
       exact ⟨⟨k + 1, by omega, by go_num, H.out⟩, by simp [intOf]; omega⟩
      ·go_wp2_with fail
       refine (HC.out _).mono ?_
       rintro e w1 ⟨rfl, hw⟩
       obtain rfl := hw.symm
       go_wp2
       exact ⟨⟨k + 1, by omega, by go_num, H.out⟩, by simp [intOf]; omega⟩
    ·have hdf : tcN s[k].toNat = false := by simpa using hd
     have H := Hy (HB.out k hlt hdf)
     have hlf : letN s[k].toNat = false := by
      cases hq : letN s[k].toNat
      ·rfl
      ·rw [tcN_let _ hq] at hdf; cases hdf
     rw [hlf] at HC
     obtain ⟨c, hc⟩ : ∃ c, s[k].toNat = c := ⟨_, rfl⟩
     have hw := tcN_not c (hc ▸ hlf) (hc ▸ hdf)
     have hw' : ((c : Int) < 48 \/ (48 : Int) <= (c : Int) /\ (57 : Int) < (c : Int)) := by omega
     have hw2 : ((c : Int) != 45) = true := by simp; omega
     clear hall hd hlf hw hdf
     rw [hc] at HC hb
     rcases hw' with g1 | ⟨g1, g2⟩
     all_goals
      go_wp2_with fail
      refine (HC.out _).mono ?_
      rintro e w1 ⟨rfl, hw⟩
      obtain rfl := hw.symm
      go_wp2
      go_ret
      exact pureB_mk H.out
   ·obtain rfl : k = s.size := by omega
    have H := Hy (HK.out hall)
    clear hall
    go_wp2
    go_ret
    exact pureB_mk H.out
 ·have hlf : letN s[0].toNat = false := by simpa using hl
  have HC0 := Hy (dlet_any s[0].toNat)
  rw [hlf] at HC0
  have H := Hy (tyL_head s hp hlf)
  clear h0 h64 hl hlf
  go_enter Tryz.func193, Tryz.ntmps193
  go_wp2_with fail
  refine (HC0.out _).mono ?_
  rintro e w1 ⟨rfl, hw⟩
  obtain rfl := hw.symm
  go_wp2
  go_ret
  exact pureB_mk H.out
theorem tyL_full (s : ByteArray) (h1 : 1 <= s.size) (h2 : s.size <= 64) (hd : hdP letN s.data.toList = true) (hall : (s.data.toList.take s.size).all (fun c => tcN c.toNat) = true) : tyL s.data.toList = true := by
 rw [hdP_at _ s (by omega)] at hd
 exact tyL_ok s (by omega) h2 hd hall
theorem tc_ways (c : Nat) : (letN c = true /\ tcN c = true /\ ((97 <= (c : Int) /\ (c : Int) <= 122) \/ ((c : Int) < 97 /\ 65 <= (c : Int) /\ (c : Int) <= 90))) \/
  (letN c = false /\ tcN c = true /\ (((c : Int) < 97 /\ (c : Int) < 65 /\ 48 <= (c : Int) /\ (c : Int) <= 57) \/ ((c : Int) < 97 /\ (c : Int) < 65 /\ (c : Int) < 48 /\ ((c : Int) == 45) = true))) \/
  (letN c = false /\ tcN c = false /\ (((c : Int) < 97 /\ (c : Int) < 65 /\ (c : Int) < 48 /\ ((c : Int) == 45) = false) \/ ((c : Int) < 97 /\ (c : Int) < 65 /\ 48 <= (c : Int) /\ 57 < (c : Int) /\ ((c : Int) == 45) = false) \/
   ((c : Int) < 97 /\ 65 <= (c : Int) /\ 90 < (c : Int) /\ 48 <= (c : Int) /\ 57 < (c : Int) /\ ((c : Int) == 45) = false) \/ (97 <= (c : Int) /\ 122 < (c : Int) /\ 65 <= (c : Int) /\ 90 < (c : Int) /\ 48 <= (c : Int) /\ 57 < (c : Int) /\ ((c : Int) == 45) = false))) := by
 by_cases h : letN c = true
 ·refine .inl ⟨h, tcN_let c h, ?_⟩
  simp only [letN, Bool.or_eq_true, Bool.and_eq_true, decide_eq_true_eq] at h; omega
 ·have h' : letN c = false := by simpa using h
  have g := h'
  simp only [letN, Bool.or_eq_false_iff, Bool.and_eq_false_iff, decide_eq_false_iff_not] at g
  cases ht : tcN c
  ·have := tcN_not c h' ht
   refine .inr (.inr ⟨h', rfl, ?_⟩)
   simp only [beq_eq_false_iff_ne, ne_eq]; omega
  ·have := tcN_ways c h' ht
   refine .inr (.inl ⟨h', rfl, ?_⟩)
   simp only [beq_iff_eq]; omega
theorem rtyped_any (s : ByteArray) (hs : s.size <= 140737488355328) (w : World) : Calls Tryz.prog 143 #[.string s] w (PureB (tyL s.data.toList) w) := by
 have HB := Hy (tyL_bad s)
 have HH := Hy (tyL_head s)
 have HF := Hy (tyL_full s)
 have HL := Hy (tyL_long s)
 have HN := Hy (tyL_nil s)
 have HP := Hy (hdP_at letN s)
 go_enter Tryz.func143, Tryz.ntmps143
 go_wp2
 go_loop [3] (fun v => ∃ k : Nat, k <= s.size /\ v = .int .i64 (k : Nat) /\ (s.data.toList.take k).all (fun c => tcN c.toNat) = true /\ (0 < k -> hdP letN s.data.toList = true)) (fun v => s.size - (intOf v).toNat)
 case atStart => exact ⟨0, by omega, rfl, rfl, by omega⟩
 case round =>
  obtain ⟨k, hk, rfl, hall, hh⟩ := hrel
  by_cases hlt : k < s.size
  ·have hb : s[k].toNat < 256 := s[k].toNat_lt
   have hkl : (k : Int) < (s.size : Int) := by omega
   have hpos : 0 < s.size := by omega
   rcases tc_ways s[k].toNat with ⟨g1, g2, g3⟩ | ⟨g1, g2, g3⟩ | ⟨g1, g2, g3⟩
   ·have H := Hy (An (all_step s k hlt _ hall g2) (show hdP letN s.data.toList = true from if h0 : k = 0 then by subst h0; rw [hdP_at _ s hpos]; exact g1 else hh (by omega)))
    clear hall hh g1 g2 hpos
    obtain ⟨c, hc⟩ : ∃ c, s[k].toNat = c := ⟨_, rfl⟩
    rw [hc] at hb g3
    rcases g3 with ⟨g3, g4⟩ | ⟨g3, g4, g5⟩
    all_goals
     go_wp2
     exact ⟨⟨k + 1, by omega, by go_num, H.out.1, fun _ => H.out.2⟩, by simp [intOf]; omega⟩
   ·by_cases h0 : k = 0
    ·subst h0
     have H := Hy (HH.out hpos g1)
     clear hall hh g1 g2 hpos
     obtain ⟨c, hc⟩ : ∃ c, s[0].toNat = c := ⟨_, rfl⟩
     rw [hc] at hb g3
     rcases g3 with ⟨g3, g4, g5, g6⟩ | ⟨g3, g4, g5, g6⟩
     all_goals
      go_wp2
      go_ret
      exact pureB_mk H.out
    ·have H := Hy (An (all_step s k hlt _ hall g2) (hh (by omega)))
     have hk0 : ((k : Int) == 0) = false := by rw [beq_eq_false_iff_ne]; omega
     clear hall hh g1 g2 hpos h0
     obtain ⟨c, hc⟩ : ∃ c, s[k].toNat = c := ⟨_, rfl⟩
     rw [hc] at hb g3
     rcases g3 with ⟨g3, g4, g5, g6⟩ | ⟨g3, g4, g5, g6⟩
     all_goals
      go_wp2
      exact ⟨⟨k + 1, by omega, by go_num, H.out.1, fun _ => H.out.2⟩, by simp [intOf]; omega⟩
   ·have H := Hy (HB.out k hlt g2)
    clear hall hh g1 g2 hpos
    by_cases h0 : k = 0
    ·subst h0
     obtain ⟨c, hc⟩ : ∃ c, s[0].toNat = c := ⟨_, rfl⟩
     rw [hc] at hb g3
     rcases g3 with ⟨g3, g4, g5, g6⟩ | ⟨g3, g4, g5, g6, g7⟩ | ⟨g3, g4, g5, g6, g7, g8⟩ | ⟨g3, g4, g5, g6, g7, g8, g9⟩
     all_goals
      go_wp2
      all_goals first
       | (go_ret; exact pureB_mk H.out)
       | (exfalso; rename_i hx; simp only [Bool.not_eq_eq_eq_not, Bool.not_false, decide_eq_true_eq] at hx; omega)
    ·have hk0 : ((k : Int) == 0) = false := by rw [beq_eq_false_iff_ne]; omega
     clear h0
     obtain ⟨c, hc⟩ : ∃ c, s[k].toNat = c := ⟨_, rfl⟩
     rw [hc] at hb g3
     rcases g3 with ⟨g3, g4, g5, g6⟩ | ⟨g3, g4, g5, g6, g7⟩ | ⟨g3, g4, g5, g6, g7, g8⟩ | ⟨g3, g4, g5, g6, g7, g8, g9⟩
     all_goals
      go_wp2
      all_goals first
       | (go_ret; exact pureB_mk H.out)
       | (exfalso; rename_i hx; simp only [Bool.not_eq_eq_eq_not, Bool.not_false, decide_eq_true_eq] at hx; omega)
  ·obtain rfl : k = s.size := by omega
   have hw : ((s.size : Int) < 1 /\ tyL s.data.toList = false) \/ (1 <= (s.size : Int) /\ (s.size : Int) <= 64 /\ tyL s.data.toList = true) \/ (1 <= (s.size : Int) /\ 64 < (s.size : Int) /\ tyL s.data.toList = false) := by
    by_cases h0 : s.size = 0
    ·exact .inl ⟨by omega, HN.out h0⟩
    ·by_cases h64 : 64 < s.size
     ·exact .inr (.inr ⟨by omega, by omega, HL.out h64⟩)
     ·exact .inr (.inl ⟨by omega, by omega, HF.out (by omega) (by omega) (hh (by omega)) hall⟩)
   clear hall hh
   rcases hw with ⟨g1, g2⟩ | ⟨g1, g2, g3⟩ | ⟨g1, g2, g3⟩
   ·have H := Hy g2
    clear g2
    go_wp2
    go_ret
    exact pureB_mk H.out
   ·have H := Hy g3
    clear g3
    go_wp2
    go_ret
    exact pureB_mk (H.out.trans (by first | rfl | (rw [eq_comm, decide_eq_true_eq]; omega)))
   ·have H := Hy g3
    clear g3
    go_wp2
    go_ret
    exact pureB_mk (H.out.trans (by first | rfl | (rw [eq_comm, decide_eq_false_iff_not]; omega)))
end Go.Proofs.YtpkbgkoocijegaaGreatDoor
