/- As many entries as may be are there, and no more. -/
import Derived.Test.YtbmnpjkcomcboaaGreatDoorDtWX
import Derived.Test.YtbmnpjkcomcboaaGreatDoorDtO
namespace Go.Proofs.YtbmnpjkcomcboaaGreatDoor
set_option linter.unusedSimpArgs false
set_option linter.unusedVariables false
open Go Go.RowKit Go.Proofs.BerK Go.Proofs.MemK Go.Proofs.UtfK Go.Maps Go.WideMaps

set_option maxHeartbeats 25600000 in
set_option maxRecDepth 100000 in
theorem dtfull_any (a : Nat) (ha : a < 65536) (w : World) (he : ErrOk w) : Calls Tryz.prog 7 #[.int .u16 (a : Nat)] w (BB true w) := by
  have HE := Lib.hid he
  clear he
  obtain ⟨m, hm⟩ : ∃ m, a % 1100 = m := ⟨_, rfl⟩
  have hm2 : m < 1100 := by omega
  go_enter Tryz.func7, Tryz.ntmps7
  go_wp2_with fail
  refine (plain_any w).mono ?_
  rintro en w1 ⟨sb, rfl, hsc, hb1⟩
  have HWl := Lib.hid (show Wld w1 sb from fun w' hb => ⟨scAt_below hsc hb, errOk_below HE.out (hb1.trans (hb.mono hb1.size))⟩)
  have HB1 := Lib.hid hb1
  clear hsc hb1
  go_wp2_with fail
  refine (dtnew_any (some ⟨sb, 0, none⟩) w1).mono ?_
  rintro en w2 ⟨g, S0, rfl, htr, hS, hg, hb2, _⟩
  have H0 := Lib.hid (show TIn w1 w2 sb g S0 [] from ⟨htr, hb2, trL_nil, by decide⟩)
  clear htr hS hg hb2
  go_wp2
  have hmi : ((a : Int) % 1100) = (m : Int) := by omega
  rw [hmi]
  clear hmi hm ha
  go_loopw [5] (fun iv wr => ∃ (i : Nat) (S : Nat → Prop), i ≤ m ∧ iv = .int .i64 (i : Nat) ∧ TIn w1 wr sb g S (fuL i)) (fun iv _ => m - (intOf iv).toNat)
  case atStart => exact ⟨0, S0, by omega, rfl, H0.out⟩
  case round =>
    obtain ⟨i, S, hi, rfl, ht⟩ := hrel
    have HT := Lib.hid ht
    clear ht
    by_cases hlt : i < m
    · have hkl : (i : Int) < (m : Int) := by omega
      have hbc : (bc (fuV i)).toArray = #[.int .u8 (97 + (i : Int) / 400), .int .u8 (97 + (i : Int) / 20 % 20), .int .u8 (97 + (i : Int) % 20)] := by
        have z : ∀ n : Nat, n < 256 → (UInt8.ofNat n).toNat = n := fun n hn => by simp; omega
        unfold bc fuV
        simp only [List.map_cons, List.map_nil, z (97 + i / 400) (by omega), z (97 + i / 20 % 20) (by omega), z (97 + i % 20) (by omega)]
        simp
      obtain ⟨W, hW⟩ : ∃ W, wr.alloc (.cells #[.int .u8 (97 + (i : Int) / 400), .int .u8 (97 + (i : Int) / 20 % 20), .int .u8 (97 + (i : Int) % 20)] 5) = W := ⟨_, rfl⟩
      have hcv : (convert 63 9 (.slice (some ⟨wr.heap.size, 0, none⟩) 3 3)).run Tryz.prog W = .ok (.string ⟨(fuV i).toArray⟩) W := by
        rw [← hW, ← hbc]
        exact run_convert_bytes_back (P := Tryz.prog) _ 63 9 5 ⟨wr.heap.size, 0, none⟩ 3 (fuV i) Tryz.underlying63 Tryz.underlying5 Tryz.underlying9 (fun j hj => cell_new wr (bc (fuV i)) 5 j _ (by simp [bc, hj]))
      have hbW : Below wr.heap.size wr W := by rw [← hW]; exact (Below.refl _ _).alloc (Nat.le_refl _) _
      have HW := Lib.hid hbW
      clear hbc hbW
      go_wp2_with fail
      have hap : (({ data := #[100, 99, 61] } : ByteArray) ++ { data := (fuV i).toArray }) = { data := (fuN i).toArray } := by
        apply ByteArray.ext
        simp [fuN]
      rw [hap]
      refine (dtdom_any (fuN i) (fuV i) W).mono ?_
      rintro en w3 ⟨b3, rfl, hed, hb3⟩
      have hb3w := HW.out.trans (hb3.mono HW.out.size)
      have HT3 := Lib.hid (tin_below HT.out hb3w)
      have HEd := Lib.hid hed
      clear hed hb3 hb3w hap hcv hW
      obtain ⟨q, hq⟩ : ∃ q, (if i < 1024 then 0 else 80) = q := ⟨_, rfl⟩
      have HAd := Lib.hid (tin_addc (L' := fuL (i + 1)) ((fu_code i (by omega)).trans hq) rfl HWl.out HT3.out HEd.out (fewz_dom _ (by simp [fuV])) (by simp [fuN, fuV]))
      go_wp2_with fail
      refine HAd.out.mono ?_
      rintro en w4 ⟨rfl, S', ht', _, _⟩
      have HT4 := Lib.hid ht'
      clear ht'
      by_cases hi2 : i < 1024
      · have hii : (i : Int) < 1024 := by omega
        have hii2 : ¬ (1024 : Int) ≤ (i : Int) := by omega
        obtain rfl : 0 = q := by rw [← hq, if_pos hi2]
        clear hq
        go_wp2
        exact ⟨⟨i + 1, S', by omega, by go_num, HT4.out⟩, by simp [intOf]; omega⟩
      · have hii : ¬ (i : Int) < 1024 := by omega
        have hii2 : (1024 : Int) ≤ (i : Int) := by omega
        obtain rfl : 80 = q := by rw [← hq, if_neg hi2]
        clear hq
        go_wp2
        exact ⟨⟨i + 1, S', by omega, by go_num, HT4.out⟩, by simp [intOf]; omega⟩
    · obtain rfl : i = m := by omega
      clear hlt
      obtain ⟨q, hq⟩ : ∃ q, (fuL i).length = q := ⟨_, rfl⟩
      have hqm := (fu_st i (by omega)).2.1
      have HLn := Lib.hid (dtlen_any _ g _ S (fuL i) wr HT.out.1)
      have HNm := Lib.hid (dtnames_any _ g _ S (fuL i) wr HT.out.1 HT.out.2.2.1 HT.out.2.2.2)
      rw [hq] at HLn hqm
      have HQ := Lib.hid (show ((fuL i).map (·.1)).length = q by rw [List.length_map, hq])
      have hmin : min (i : Int) 1024 = (q : Int) := by omega
      clear hq
      go_wp2_with fail
      refine HLn.out.mono ?_
      rintro en w5 ⟨rfl, rfl⟩
      go_wp2_with fail
      refine HNm.out.mono ?_
      rintro en w6 ⟨nv, rfl, hnr, hb6⟩
      obtain ⟨na, nc, rfl⟩ := ownsRow_slice hnr
      have HT6 := Lib.hid (tin_below HT.out hb6)
      have HL6 := Lib.hid (dtlen_any _ g _ S (fuL i) w6 HT6.out.1)
      rw [HQ.out]
      rw [show (fuL i).length = q by rw [← HQ.out, List.length_map]] at HL6
      clear hnr hb6
      go_wp2_with fail
      refine HL6.out.mono ?_
      rintro en w7 ⟨rfl, rfl⟩
      have hbw := HB1.out.trans (HT6.out.2.1.mono HB1.out.size)
      have HAw := Lib.hid (dtaw_any w6 (errOk_below HE.out hbw))
      have HBw := Lib.hid hbw
      clear hbw
      go_wp2_with fail
      refine HAw.out.mono ?_
      rintro en w8 ⟨rfl, hb8⟩
      have HB8 := Lib.hid (HBw.out.trans (hb8.mono HBw.out.size))
      clear hb8
      go_wp2
      go_ret
      exact bB_mk rfl HB8.out
end Go.Proofs.YtbmnpjkcomcboaaGreatDoor
