/- The document's Int and Less, for every text. -/
import Derived.Test.YtpkbgkoocijegaaGreatDoorFoldAE
import Derived.Test.YtpkbgkoocijegaaGreatDoorDqE
import Derived.BigQuiet
set_option linter.unusedVariables false
set_option linter.unusedSimpArgs false
set_option maxHeartbeats 25600000
set_option maxRecDepth 100000
namespace Go.Proofs.YtpkbgkoocijegaaGreatDoor
open Go Go.RowKit Go.Proofs.BerK Go.Proofs.MemK Go.Proofs.UtfK
def IntPure (l : List UInt8) (w : World) (en : Ending) (w' : World) : Prop := en = .returned (.tuple #[.string ⟨(intL l).1.toArray⟩, .bool (intL l).2]) /\ w' = w
theorem intPure_mk {l : List UInt8} {x : ByteArray} {b : Bool} {w : World} (h : intL l = (x.data.toList, b)) : IntPure l w (.returned (.tuple #[.string x, .bool b])) w := by
 refine ⟨?_, rfl⟩
 rw [h, mk_list]
theorem int_split (l : List UInt8) (h : okD (digs l) = true) : (strip (digs l) = [48] -> intL l = ([48], true)) /\ (strip (digs l) ≠ [48] -> intL l = ((if hasM l = true then [45] else []) ++ strip (digs l), true)) := by
 constructor
 ·intro hz
  rw [intL, intOk_okD, if_neg (by simp [h]), if_pos hz]
 ·intro hz
  rw [intL, intOk_okD, if_neg (by simp [h]), if_neg hz]
  by_cases hm : l.head? = some 45 <;> simp [hasM, hm]
theorem okD_all (x : ByteArray) (h1 : 1 <= x.size) (h2 : x.size <= 32) (h : x.data.toList.all digB = true) : okD x.data.toList = true := by
 have hl := len_list x
 simp only [okD, h, Bool.and_true, Bool.and_eq_true, decide_eq_true_eq]; omega
theorem okD_size (x : ByteArray) (h : x.size < 1 \/ 32 < x.size) : okD x.data.toList = false := by
 have hl := len_list x
 simp only [okD, Bool.and_eq_false_iff, decide_eq_false_iff_not]; omega
theorem strip_one (x : ByteArray) (h : x.size = 1) : strip x.data.toList = x.data.toList := by
 have hl := len_list x
 match hx : x.data.toList with
 | [] => rfl
 | [c] => rfl
 | c :: d :: r => rw [hx] at hl; simp at hl; omega
theorem strip_more (x : ByteArray) (h : 1 < x.size) : strip x.data.toList = if x[0] = 48 then strip (x.extract 1 x.size).data.toList else x.data.toList := by
 have hl := len_list x
 have hc := list_cut x (by omega)
 obtain ⟨r, hr⟩ : ∃ r, (x.extract 1 x.size).data.toList = r := ⟨_, rfl⟩
 rw [hr] at hc ⊢
 rw [hc]
 match r, hc with
 | [], hc => rw [hc] at hl; simp at hl; omega
 | d :: r, hc => rw [strip]
theorem rint_any (s : ByteArray) (hs : s.size <= 140737488355328) (w : World) : Calls Tryz.prog 137 #[.string s] w (IntPure s.data.toList w) := by
 have hl := len_list s
 by_cases h0 : s.size = 0
 ·have hn : s.data.toList = [] := List.eq_nil_of_length_eq_zero (by rw [len_list]; exact h0)
  have hem := str_e s h0
  have H := Hy (show intL s.data.toList = ((⟨#[]⟩ : ByteArray).data.toList, false) by rw [hn]; rfl)
  have q : (s.size : Int) < 1 := by omega
  clear hl hn h0
  go_enter Tryz.func137, Tryz.ntmps137
  go_wp2
  go_ret2
  exact intPure_mk H.out
 have hem := str_ne s (by omega)
 have h8 := s[0].toNat_lt
 have hp1 : 1 <= s.size := by omega
 have hp2 : (1 : Int) <= (s.size : Int) := by omega
 have hp3 : (0 : Int) < (s.size : Int) := by omega
 have hh := head_at s (by omega)
 obtain ⟨L, hL⟩ : ∃ L, s.data.toList = L := ⟨_, rfl⟩
 have HB := Hy (intL_bad L)
 have HI := Hy (int_split L)
 rw [hL] at hh ⊢
 by_cases h45 : s[0] = 45
 ·have ht : ((s[0].toNat : Int) == 45) = true := by rw [h45]; rfl
  have hm : hasM L = true := by simp [hasM, hh, h45]
  have hd : digs L = (s.extract 1 s.size).data.toList := by rw [digs_true _ hm, Lib.extract_to_end, hL]
  rw [hd, hm] at HI
  rw [hd] at HB
  obtain ⟨x, hx⟩ : ∃ x, s.extract 1 s.size = x := ⟨_, rfl⟩
  have hxs : x.size <= s.size := by
   rw [<- hx, <- len_list, Lib.extract_to_end, List.length_drop]; omega
  rw [hx] at HI HB
  obtain ⟨c0, hc0⟩ : ∃ c, s[0].toNat = c := ⟨_, rfl⟩
  rw [hc0] at h8 ht
  clear hl h0 hh hL h45 hm hd
  by_cases hsz0 : x.size < 1
  ·have q1 : (x.size : Int) < 1 := by omega
   have H := Hy (HB.out (okD_size x (.inl hsz0)))
   clear HB HI
   go_enter Tryz.func137, Tryz.ntmps137
   go_wp2
   go_ret2
   exact intPure_mk H.out
  have hx1 : 1 <= x.size := by omega
  by_cases hsz : 32 < x.size
  ·have q1 : ¬ (x.size : Int) < 1 := by omega
   have q2 : (32 : Int) < (x.size : Int) := by omega
   have H := Hy (HB.out (okD_size x (.inr hsz)))
   clear HB HI
   go_enter Tryz.func137, Tryz.ntmps137
   go_wp2
   go_ret2
   exact intPure_mk H.out
  have q1 : ¬ (x.size : Int) < 1 := by omega
  have q2 : ¬ (32 : Int) < (x.size : Int) := by omega
  go_enter Tryz.func137, Tryz.ntmps137
  go_wp2
  go_loop [5] (fun v => ∃ k : Nat, k <= x.size /\ v = .int .i64 (k : Nat) /\ (x.data.toList.take k).all digB = true) (fun v => x.size - (intOf v).toNat)
  case atStart => exact ⟨0, by omega, rfl, by simp⟩
  case round =>
   obtain ⟨k, hk, rfl, hall⟩ := hrel
   by_cases hlt : k < x.size
   ·have hkl : (k : Int) < (x.size : Int) := by omega
    have h9 : x[k].toNat < 256 := x[k].toNat_lt
    by_cases hdg : digB x[k] = true
    ·have hall2 : (x.data.toList.take (k + 1)).all digB = true := by
      rw [take_snoc x k hlt, List.all_append, hall]; simp [hdg]
     have H := Hy hall2
     unfold digB at hdg
     simp only [Bool.and_eq_true, decide_eq_true_eq] at hdg
     obtain ⟨c, hc⟩ : ∃ c, x[k].toNat = c := ⟨_, rfl⟩
     rw [hc] at h9 hdg
     have z1 : ¬ (c : Int) < 48 := by omega
     have z2 : ¬ (57 : Int) < (c : Int) := by omega
     clear hall hall2 hdg
     go_wp2
     exact ⟨⟨k + 1, by omega, by go_num, H.out⟩, by simp [intOf]; omega⟩
    ·have hdg' : digB x[k] = false := by simpa using hdg
     have H := Hy (HB.out (okD_bad x k hlt hdg'))
     unfold digB at hdg'
     simp only [Bool.and_eq_false_iff, decide_eq_false_iff_not] at hdg'
     obtain ⟨c, hc⟩ : ∃ c, x[k].toNat = c := ⟨_, rfl⟩
     rw [hc] at h9 hdg'
     have z : (c : Int) < 48 \/ (¬ (c : Int) < 48 /\ (57 : Int) < (c : Int)) := by omega
     clear hall hdg hdg' HB HI
     rcases z with z1 | ⟨z1, z2⟩
     all_goals
      go_wp2
      go_ret2
      exact intPure_mk H.out
   ·obtain rfl : k = x.size := by omega
    rw [List.take_of_length_le (by rw [len_list]; exact Nat.le_refl _)] at hall
    have HK := Hy (HI.out (okD_all x hx1 (by omega) hall))
    clear hall HB HI
    go_wp2
    go_loop [0] (fun v => ∃ z : ByteArray, v = .string z /\ 1 <= z.size /\ z.size <= 32 /\ strip z.data.toList = strip x.data.toList) (fun v => strSz v)
    case atStart => exact ⟨x, rfl, hx1, by omega, rfl⟩
    case round =>
     obtain ⟨z, rfl, hz1, hz2, hz⟩ := hrel
     have h10 := z[0].toNat_lt
     have w2 : (1 : Int) <= (z.size : Int) := by omega
     have w3 : (0 : Int) < (z.size : Int) := by omega
     have hend : (1 < z.size /\ z[0] = 48) \/ (z.data.toList = strip x.data.toList /\ (¬ 1 < z.size \/ (1 < z.size /\ z[0] ≠ 48))) := by
      by_cases hone : z.size = 1
      ·exact .inr ⟨(strip_one z hone).symm.trans hz, .inl (by omega)⟩
      ·have hm := strip_more z (by omega)
       by_cases hc48 : z[0] = 48
       ·exact .inl ⟨by omega, hc48⟩
       ·rw [if_neg hc48] at hm
        exact .inr ⟨hm.symm.trans hz, .inr ⟨by omega, hc48⟩⟩
     rcases hend with ⟨hm1, hm2⟩ | ⟨hzz, hwy⟩
     ·have hm := strip_more z hm1
      rw [if_pos hm2, hz] at hm
      have hzs : (z.extract 1 z.size).size = z.size - 1 := by rw [<- len_list (z.extract 1 z.size), Lib.extract_to_end, List.length_drop, len_list]
      have H := Hy (An hm hzs)
      have w1 : (1 : Int) < (z.size : Int) := by omega
      have w4 : ((z[0].toNat : Int) == 48) = true := by rw [hm2]; rfl
      obtain ⟨c, hc⟩ : ∃ c, z[0].toNat = c := ⟨_, rfl⟩
      rw [hc] at h10 w4
      clear hm hzs hm2 hz
      go_wp2
      refine ⟨⟨_, rfl, by rw [H.out.2]; omega, by rw [H.out.2]; omega, H.out.1.symm⟩, ?_⟩
      show (z.extract 1 z.size).size < z.size
      rw [H.out.2]; omega
     ·obtain ⟨w1, hw1⟩ : ∃ P : Prop, ((¬ (1 : Int) < (z.size : Int)) \/ ((1 : Int) < (z.size : Int) /\ ((z[0].toNat : Int) == 48) = false)) = P := ⟨_, rfl⟩
      have hw : w1 := by
       rw [<- hw1]
       rcases hwy with h | ⟨h, h2⟩
       ·exact .inl (by omega)
       ·exact .inr ⟨by omega, by rw [beq_eq_false_iff_ne]; intro e; apply h2; apply UInt8.toNat_inj.1; show _ = 48; omega⟩
      rw [<- hw1] at hw
      clear hw1 hwy hz w1
      rw [<- hzz] at HK
      clear hzz
      obtain ⟨c, hc⟩ : ∃ c, z[0].toNat = c := ⟨_, rfl⟩
      rw [hc] at h10 hw
      by_cases he : z.data.toList = [48]
      ·have w5 : (z.toList == [48]) = true := by rw [ByteArray.toList_eq, he]; rfl
       have H := Hy (show intL L = (z.data.toList, true) by rw [he]; exact HK.out.1 he)
       clear he HK
       rcases hw with w1 | ⟨w1, w4⟩
       all_goals
        go_wp2
        go_ret2
        exact intPure_mk H.out
      ·have w5 : (z.toList == [48]) = false := by rw [ByteArray.toList_eq, beq_eq_false_iff_ne]; exact he
       have w6 : ¬ (9223372036854775807 < z.size) := by omega
       have w7 : ¬ (9223372036854775807 < 1 + z.size) := by omega
       have H := Hy (HK.out.2 he)
       clear he HK
       rcases hw with w1 | ⟨w1, w4⟩
       all_goals
        go_wp2
        go_ret2
        refine intPure_mk ?_
        rw [H.out]
        simp
 ·have ht : ((s[0].toNat : Int) == 45) = false := by
   rw [beq_eq_false_iff_ne]; intro e; apply h45; apply UInt8.toNat_inj.1; show _ = 45; omega
  have hm : hasM L = false := by simp [hasM, hh, h45]
  have hd : digs L = s.data.toList := by rw [digs_false _ hm, hL]
  rw [hd, hm] at HI
  rw [hd] at HB
  obtain ⟨c0, hc0⟩ : ∃ c, s[0].toNat = c := ⟨_, rfl⟩
  rw [hc0] at h8 ht
  clear hl h0 hh hL h45 hm hd
  have hx1 := hp1
  by_cases hsz : 32 < s.size
  ·have q1 : ¬ (s.size : Int) < 1 := by omega
   have q2 : (32 : Int) < (s.size : Int) := by omega
   have H := Hy (HB.out (okD_size s (.inr hsz)))
   clear HB HI
   go_enter Tryz.func137, Tryz.ntmps137
   go_wp2
   go_ret2
   exact intPure_mk H.out
  have q1 : ¬ (s.size : Int) < 1 := by omega
  have q2 : ¬ (32 : Int) < (s.size : Int) := by omega
  go_enter Tryz.func137, Tryz.ntmps137
  go_wp2
  go_loop [5] (fun v => ∃ k : Nat, k <= s.size /\ v = .int .i64 (k : Nat) /\ (s.data.toList.take k).all digB = true) (fun v => s.size - (intOf v).toNat)
  case atStart => exact ⟨0, by omega, rfl, by simp⟩
  case round =>
   obtain ⟨k, hk, rfl, hall⟩ := hrel
   by_cases hlt : k < s.size
   ·have hkl : (k : Int) < (s.size : Int) := by omega
    have h9 : s[k].toNat < 256 := s[k].toNat_lt
    by_cases hdg : digB s[k] = true
    ·have hall2 : (s.data.toList.take (k + 1)).all digB = true := by
      rw [take_snoc s k hlt, List.all_append, hall]; simp [hdg]
     have H := Hy hall2
     unfold digB at hdg
     simp only [Bool.and_eq_true, decide_eq_true_eq] at hdg
     obtain ⟨c, hc⟩ : ∃ c, s[k].toNat = c := ⟨_, rfl⟩
     rw [hc] at h9 hdg
     have z1 : ¬ (c : Int) < 48 := by omega
     have z2 : ¬ (57 : Int) < (c : Int) := by omega
     clear hall hall2 hdg
     go_wp2
     exact ⟨⟨k + 1, by omega, by go_num, H.out⟩, by simp [intOf]; omega⟩
    ·have hdg' : digB s[k] = false := by simpa using hdg
     have H := Hy (HB.out (okD_bad s k hlt hdg'))
     unfold digB at hdg'
     simp only [Bool.and_eq_false_iff, decide_eq_false_iff_not] at hdg'
     obtain ⟨c, hc⟩ : ∃ c, s[k].toNat = c := ⟨_, rfl⟩
     rw [hc] at h9 hdg'
     have z : (c : Int) < 48 \/ (¬ (c : Int) < 48 /\ (57 : Int) < (c : Int)) := by omega
     clear hall hdg hdg' HB HI
     rcases z with z1 | ⟨z1, z2⟩
     all_goals
      go_wp2
      go_ret2
      exact intPure_mk H.out
   ·obtain rfl : k = s.size := by omega
    rw [List.take_of_length_le (by rw [len_list]; exact Nat.le_refl _)] at hall
    have HK := Hy (HI.out (okD_all s hx1 (by omega) hall))
    clear hall HB HI
    go_wp2
    go_loop [0] (fun v => ∃ z : ByteArray, v = .string z /\ 1 <= z.size /\ z.size <= 32 /\ strip z.data.toList = strip s.data.toList) (fun v => strSz v)
    case atStart => exact ⟨s, rfl, hx1, by omega, rfl⟩
    case round =>
     obtain ⟨z, rfl, hz1, hz2, hz⟩ := hrel
     have h10 := z[0].toNat_lt
     have w2 : (1 : Int) <= (z.size : Int) := by omega
     have w3 : (0 : Int) < (z.size : Int) := by omega
     have hend : (1 < z.size /\ z[0] = 48) \/ (z.data.toList = strip s.data.toList /\ (¬ 1 < z.size \/ (1 < z.size /\ z[0] ≠ 48))) := by
      by_cases hone : z.size = 1
      ·exact .inr ⟨(strip_one z hone).symm.trans hz, .inl (by omega)⟩
      ·have hm := strip_more z (by omega)
       by_cases hc48 : z[0] = 48
       ·exact .inl ⟨by omega, hc48⟩
       ·rw [if_neg hc48] at hm
        exact .inr ⟨hm.symm.trans hz, .inr ⟨by omega, hc48⟩⟩
     rcases hend with ⟨hm1, hm2⟩ | ⟨hzz, hwy⟩
     ·have hm := strip_more z hm1
      rw [if_pos hm2, hz] at hm
      have hzs : (z.extract 1 z.size).size = z.size - 1 := by rw [<- len_list (z.extract 1 z.size), Lib.extract_to_end, List.length_drop, len_list]
      have H := Hy (An hm hzs)
      have w1 : (1 : Int) < (z.size : Int) := by omega
      have w4 : ((z[0].toNat : Int) == 48) = true := by rw [hm2]; rfl
      obtain ⟨c, hc⟩ : ∃ c, z[0].toNat = c := ⟨_, rfl⟩
      rw [hc] at h10 w4
      clear hm hzs hm2 hz
      go_wp2
      refine ⟨⟨_, rfl, by rw [H.out.2]; omega, by rw [H.out.2]; omega, H.out.1.symm⟩, ?_⟩
      show (z.extract 1 z.size).size < z.size
      rw [H.out.2]; omega
     ·obtain ⟨w1, hw1⟩ : ∃ P : Prop, ((¬ (1 : Int) < (z.size : Int)) \/ ((1 : Int) < (z.size : Int) /\ ((z[0].toNat : Int) == 48) = false)) = P := ⟨_, rfl⟩
      have hw : w1 := by
       rw [<- hw1]
       rcases hwy with h | ⟨h, h2⟩
       ·exact .inl (by omega)
       ·exact .inr ⟨by omega, by rw [beq_eq_false_iff_ne]; intro e; apply h2; apply UInt8.toNat_inj.1; show _ = 48; omega⟩
      rw [<- hw1] at hw
      clear hw1 hwy hz w1
      rw [<- hzz] at HK
      clear hzz
      obtain ⟨c, hc⟩ : ∃ c, z[0].toNat = c := ⟨_, rfl⟩
      rw [hc] at h10 hw
      by_cases he : z.data.toList = [48]
      ·have w5 : (z.toList == [48]) = true := by rw [ByteArray.toList_eq, he]; rfl
       have H := Hy (show intL L = (z.data.toList, true) by rw [he]; exact HK.out.1 he)
       clear he HK
       rcases hw with w1 | ⟨w1, w4⟩
       all_goals
        go_wp2
        go_ret2
        exact intPure_mk H.out
      ·have w5 : (z.toList == [48]) = false := by rw [ByteArray.toList_eq, beq_eq_false_iff_ne]; exact he
       have w6 : ¬ (9223372036854775807 < z.size) := by omega
       have w7 : ¬ (9223372036854775807 < 1 + z.size) := by omega
       have H := Hy (HK.out.2 he)
       clear he HK
       rcases hw with w1 | ⟨w1, w4⟩
       all_goals
        go_wp2
        go_ret2
        refine intPure_mk ?_
        rw [H.out]
        simp
end Go.Proofs.YtpkbgkoocijegaaGreatDoor
