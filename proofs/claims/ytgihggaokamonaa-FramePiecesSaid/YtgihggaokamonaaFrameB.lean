/- The framer's front: how many bytes the message has with which what is left begins, and the error that what is left tells. -/
import Derived.Test.YtgihggaokamonaaFrameA
import Derived.BigQuiet
import Derived.Deep.RegionHeld3
namespace Go.Proofs.Ytgihggaokamonaa
open Go Go.RowKit Go.Proofs.BerM Go.Proofs.BerK Go.Proofs.MemK

theorem hd_same (s : ByteArray) (w : World) (hm : s.size ≤ maxLen) (t n m e : Nat) (h : hd s.data.toList = (t, n, m, e)) :
    Calls Try.prog 19 #[.string s] w fun en w' => en = .returned (.tuple #[.int .i64 t, .int .i64 n, .int .i64 m, .int .i64 e]) ∧ w' = w :=
  (hd_any s w hm t n m e h).mono fun _ _ h => ⟨h.1, h.2.symm⟩

/-- What front hands back. -/
def FrontPost (z t : Nat) (w : World) (en : Ending) (w' : World) : Prop := en = .returned (.tuple #[.int .i64 (z : Nat), .int .i64 (t : Nat)]) ∧ ∃ n, w' = w.drewN n
theorem front_mk {z t : Nat} {a b : Nat} {w : World} (h1 : z = a) (h2 : t = b) (n : Nat) : FrontPost z t w (.returned (.tuple #[.int .i64 (a : Nat), .int .i64 (b : Nat)])) (w.drewN n) := by subst h1 h2; exact ⟨rfl, n, rfl⟩
theorem front_mk0 {z t : Nat} {a b : Nat} {w : World} (h1 : z = a) (h2 : t = b) : FrontPost z t w (.returned (.tuple #[.int .i64 (a : Nat), .int .i64 (b : Nat)])) w := by subst h1 h2; exact ⟨rfl, 0, rfl⟩

set_option maxHeartbeats 800000 in
set_option maxRecDepth 100000 in
theorem front_none (B g most : Nat) (x : FS) (r : Option Nat) (w : World) (h : Fr w B g most x r) (h0 : x.1.length = 0) :
    Calls Try.prog 15 #[.pointer (some ⟨g, 0, none⟩)] w (FrontPost (fz most x.1) (tf most x.1) w) := by
  have h1 : Hid (fz most x.1 = 0) := by unfold Hid fz; rw [if_pos h0]
  have h2 : Hid (tf most x.1 = 0) := by unfold Hid tf; rw [if_pos h0]
  obtain ⟨gone, v, ho, hm, hr, hng, hgo, hle, hmo, he⟩ := h
  obtain ⟨a, c, rfl⟩ := mid_slice hm
  rw [h0] at ho
  obtain ⟨_, _, hc2, _⟩ := obj4 ho
  clear hr hm hng hgo h0 ho
  go_enter Try.func15, Try.ntmps15
  go_wp2
  go_ret2
  exact front_mk0 h1.out h2.out

set_option maxHeartbeats 800000 in
set_option maxRecDepth 100000 in
theorem front_tag (B g most : Nat) (x : FS) (r : Option Nat) (w : World) (h : Fr w B g most x r) (h0 : 0 < x.1.length) (ht : x.1[0] ≠ 48) :
    Calls Try.prog 15 #[.pointer (some ⟨g, 0, none⟩)] w (FrontPost (fz most x.1) (tf most x.1) w) := by
  have hgd : x.1.getD 0 0 = x.1[0] := by simp [List.getD, h0]
  have h1 : Hid (fz most x.1 = 0) := by unfold Hid fz; rw [if_neg (by omega), hgd, if_pos ht]
  have h2 : Hid (tf most x.1 = 6) := by unfold Hid tf; rw [if_neg (by omega), hgd, if_pos ht]
  obtain ⟨gone, v, ho, hm, hr, hng, hgo, hle, hmo, he⟩ := h
  obtain ⟨b, o, cap, rfl, hlc, hb⟩ := mid_form hm h0
  obtain ⟨_, _, hc2, _⟩ := obj4 ho
  have hq := mid_at hm 0 h0
  rw [Nat.add_zero] at hq
  have hb0 : x.1[0].toNat < 256 := x.1[0].toNat_lt
  have hn1 : ((x.1[0].toNat : Int) != 48) = true := by
    rw [bne_iff_ne]; intro hh; apply ht; apply UInt8.toNat_inj.1; show _ = 48; omega
  have hn2 : ((x.1[0].toNat : Int) == 48) = false := by
    rw [beq_eq_false_iff_ne]; intro hh; apply ht; apply UInt8.toNat_inj.1; show _ = 48; omega
  generalize x.1[0].toNat = c at hq hb0 hn1 hn2
  have H0 := Lib.hid h0
  clear hr hm hng hgo ho ht hgd h0
  have hl0 : (0 : Int) < (x.1.length : Int) := by have := H0.out; omega
  go_enter Try.func15, Try.ntmps15
  go_wp2
  go_ret2
  exact front_mk0 h1.out h2.out

set_option maxHeartbeats 800000 in
set_option maxRecDepth 100000 in
theorem front_cut (B g most : Nat) (x : FS) (r : Option Nat) (w : World) (h : Fr w B g most x r) (h0 : 0 < x.1.length) (ht : x.1[0] = 48) (t n m e : Nat) (hh : hd x.1 = (t, n, m, e)) (he4 : e = 4) :
    Calls Try.prog 15 #[.pointer (some ⟨g, 0, none⟩)] w (FrontPost (fz most x.1) (tf most x.1) w) := by
  have hgd : x.1.getD 0 0 = 48 := by simp [List.getD, h0, ht]
  have h1 : Hid (fz most x.1 = 0) := by unfold Hid fz; rw [if_neg (by omega), hgd, if_neg (by simp), hh, if_pos (by simp [he4])]
  have h2 : Hid (tf most x.1 = 0) := by unfold Hid tf; rw [if_neg (by omega), hgd, if_neg (by simp), hh, if_neg (by simp [he4]), if_pos (by simp [he4])]
  subst he4
  obtain ⟨gone, v, ho, hm, hr, hng, hgo, hle, hmo, he⟩ := h
  obtain ⟨b, o, cap, rfl, hlc, hb⟩ := mid_form hm h0
  obtain ⟨hc0, _, hc2, _⟩ := obj4 ho
  have hq := mid_at hm 0 h0
  rw [Nat.add_zero, ht] at hq
  obtain ⟨k, hk⟩ : ∃ k, k = min x.1.length 6 := ⟨_, rfl⟩
  have hmt := mid_take hm k (by omega)
  have hcv : ∀ n, (convert 39 9 (.slice (some ⟨b, o, none⟩) k cap)).run Try.prog (w.drewN n) = .ok (.string ⟨(x.1.take k).toArray⟩) (w.drewN n) := fun n => conv_mid Try.underlying39 Try.underlying5 Try.underlying9 (mid_heap hmt rfl)
  have HC := Lib.hid fun w => hd_same ⟨(x.1.take k).toArray⟩ w (by unfold maxLen; show (x.1.take k).length ≤ _; rw [List.length_take]; omega) t n m 4 (by show hd (x.1.take k) = _; rw [hd_take _ _ hk]; exact hh)
  have hmin : (if (6 : Int) < (x.1.length : Int) then (6 : Int) else (x.1.length : Int)) = (k : Int) := by split <;> omega
  have H0 := Lib.hid h0
  have HK := Lib.hid hk
  clear hr hm hng hgo ho ht hgd h0 hmt hh hk
  have hl0 : (0 : Int) < (x.1.length : Int) := by have := H0.out; omega
  have hkc : (k : Int) ≤ (cap : Int) := by have := HK.out; omega
  go_enter Try.func15, Try.ntmps15
  go_wp2
  go_quiet ((go_at_call 19; exact Calls.quiet_of_same (HC.out _)))
  go_wp2
  go_ret2
  exact front_mk h1.out h2.out _

set_option maxHeartbeats 800000 in
set_option maxRecDepth 100000 in
theorem front_err (B g most : Nat) (x : FS) (r : Option Nat) (w : World) (h : Fr w B g most x r) (h0 : 0 < x.1.length) (ht : x.1[0] = 48) (t n m e : Nat) (hh : hd x.1 = (t, n, m, e)) (he0 : e ≠ 0) (he4 : e ≠ 4) :
    Calls Try.prog 15 #[.pointer (some ⟨g, 0, none⟩)] w (FrontPost (fz most x.1) (tf most x.1) w) := by
  have hgd : x.1.getD 0 0 = 48 := by simp [List.getD, h0, ht]
  have h1 : Hid (fz most x.1 = 0) := by unfold Hid fz; rw [if_neg (by omega), hgd, if_neg (by simp), hh, if_pos (by simpa using he0)]
  have h2 : Hid (tf most x.1 = e) := by unfold Hid tf; rw [if_neg (by omega), hgd, if_neg (by simp), hh, if_neg (by simpa using he0), if_neg (by simpa using he4)]
  obtain ⟨gone, v, ho, hm, hr, hng, hgo, hle, hmo, he⟩ := h
  obtain ⟨b, o, cap, rfl, hlc, hb⟩ := mid_form hm h0
  obtain ⟨hc0, _, hc2, _⟩ := obj4 ho
  have hq := mid_at hm 0 h0
  rw [Nat.add_zero, ht] at hq
  obtain ⟨k, hk⟩ : ∃ k, k = min x.1.length 6 := ⟨_, rfl⟩
  have hmt := mid_take hm k (by omega)
  have hcv : ∀ n, (convert 39 9 (.slice (some ⟨b, o, none⟩) k cap)).run Try.prog (w.drewN n) = .ok (.string ⟨(x.1.take k).toArray⟩) (w.drewN n) := fun n => conv_mid Try.underlying39 Try.underlying5 Try.underlying9 (mid_heap hmt rfl)
  have HC := Lib.hid fun w => hd_same ⟨(x.1.take k).toArray⟩ w (by unfold maxLen; show (x.1.take k).length ≤ _; rw [List.length_take]; omega) t n m e (by show hd (x.1.take k) = _; rw [hd_take _ _ hk]; exact hh)
  have hmin : (if (6 : Int) < (x.1.length : Int) then (6 : Int) else (x.1.length : Int)) = (k : Int) := by split <;> omega
  have H0 := Lib.hid h0
  have HK := Lib.hid hk
  have hq1 : ((e : Int) == 4) = false := by rw [beq_eq_false_iff_ne]; omega
  have hq2 : ((e : Int) != 0) = true := by rw [bne_iff_ne]; omega
  clear he0 he4
  clear hr hm hng hgo ho ht hgd h0 hmt hh hk
  have hl0 : (0 : Int) < (x.1.length : Int) := by have := H0.out; omega
  have hkc : (k : Int) ≤ (cap : Int) := by have := HK.out; omega
  go_enter Try.func15, Try.ntmps15
  go_wp2
  go_quiet ((go_at_call 19; exact Calls.quiet_of_same (HC.out _)))
  go_wp2
  go_ret2
  exact front_mk h1.out h2.out _

set_option maxHeartbeats 800000 in
set_option maxRecDepth 100000 in
theorem front_long (B g most : Nat) (x : FS) (r : Option Nat) (w : World) (h : Fr w B g most x r) (h0 : 0 < x.1.length) (ht : x.1[0] = 48) (t n m e : Nat) (hh : hd x.1 = (t, n, m, e)) (he0 : e = 0) (hn : most < n) :
    Calls Try.prog 15 #[.pointer (some ⟨g, 0, none⟩)] w (FrontPost (fz most x.1) (tf most x.1) w) := by
  have hgd : x.1.getD 0 0 = 48 := by simp [List.getD, h0, ht]
  have h1 : Hid (fz most x.1 = 0) := by unfold Hid fz; rw [if_neg (by omega), hgd, if_neg (by simp), hh, if_neg (by simp [he0]), if_pos hn]
  have h2 : Hid (tf most x.1 = 3) := by unfold Hid tf; rw [if_neg (by omega), hgd, if_neg (by simp), hh, if_pos (by simp [he0]), if_pos hn]
  subst he0
  obtain ⟨gone, v, ho, hm, hr, hng, hgo, hle, hmo, he⟩ := h
  obtain ⟨b, o, cap, rfl, hlc, hb⟩ := mid_form hm h0
  obtain ⟨hc0, _, hc2, _⟩ := obj4 ho
  have hq := mid_at hm 0 h0
  rw [Nat.add_zero, ht] at hq
  obtain ⟨k, hk⟩ : ∃ k, k = min x.1.length 6 := ⟨_, rfl⟩
  have hmt := mid_take hm k (by omega)
  have hcv : ∀ n, (convert 39 9 (.slice (some ⟨b, o, none⟩) k cap)).run Try.prog (w.drewN n) = .ok (.string ⟨(x.1.take k).toArray⟩) (w.drewN n) := fun n => conv_mid Try.underlying39 Try.underlying5 Try.underlying9 (mid_heap hmt rfl)
  have HC := Lib.hid fun w => hd_same ⟨(x.1.take k).toArray⟩ w (by unfold maxLen; show (x.1.take k).length ≤ _; rw [List.length_take]; omega) t n m 0 (by show hd (x.1.take k) = _; rw [hd_take _ _ hk]; exact hh)
  have hmin : (if (6 : Int) < (x.1.length : Int) then (6 : Int) else (x.1.length : Int)) = (k : Int) := by split <;> omega
  have H0 := Lib.hid h0
  have HK := Lib.hid hk
  have hn' : (most : Int) < (n : Int) := by omega
  clear hn
  clear hr hm hng hgo ho ht hgd h0 hmt hh hk
  have hl0 : (0 : Int) < (x.1.length : Int) := by have := H0.out; omega
  have hkc : (k : Int) ≤ (cap : Int) := by have := HK.out; omega
  go_enter Try.func15, Try.ntmps15
  go_wp2
  go_quiet ((go_at_call 19; exact Calls.quiet_of_same (HC.out _)))
  go_wp2
  go_ret2
  exact front_mk h1.out h2.out _

set_option maxHeartbeats 800000 in
set_option maxRecDepth 100000 in
theorem front_ok (B g most : Nat) (x : FS) (r : Option Nat) (w : World) (h : Fr w B g most x r) (h0 : 0 < x.1.length) (ht : x.1[0] = 48) (t n m e : Nat) (hh : hd x.1 = (t, n, m, e)) (he0 : e = 0) (hn : ¬ most < n) :
    Calls Try.prog 15 #[.pointer (some ⟨g, 0, none⟩)] w (FrontPost (fz most x.1) (tf most x.1) w) := by
  have hgd : x.1.getD 0 0 = 48 := by simp [List.getD, h0, ht]
  have h1 : Hid (fz most x.1 = m + n) := by unfold Hid fz; rw [if_neg (by omega), hgd, if_neg (by simp), hh, if_neg (by simp [he0]), if_neg hn]
  have h2 : Hid (tf most x.1 = 0) := by unfold Hid tf; rw [if_neg (by omega), hgd, if_neg (by simp), hh, if_pos (by simp [he0]), if_neg hn]
  subst he0
  have hbd := hd_bd _ _ _ _ hh
  obtain ⟨gone, v, ho, hm, hr, hng, hgo, hle, hmo, he⟩ := h
  obtain ⟨b, o, cap, rfl, hlc, hb⟩ := mid_form hm h0
  obtain ⟨hc0, _, hc2, _⟩ := obj4 ho
  have hq := mid_at hm 0 h0
  rw [Nat.add_zero, ht] at hq
  obtain ⟨k, hk⟩ : ∃ k, k = min x.1.length 6 := ⟨_, rfl⟩
  have hmt := mid_take hm k (by omega)
  have hcv : ∀ n, (convert 39 9 (.slice (some ⟨b, o, none⟩) k cap)).run Try.prog (w.drewN n) = .ok (.string ⟨(x.1.take k).toArray⟩) (w.drewN n) := fun n => conv_mid Try.underlying39 Try.underlying5 Try.underlying9 (mid_heap hmt rfl)
  have HC := Lib.hid fun w => hd_same ⟨(x.1.take k).toArray⟩ w (by unfold maxLen; show (x.1.take k).length ≤ _; rw [List.length_take]; omega) t n m 0 (by show hd (x.1.take k) = _; rw [hd_take _ _ hk]; exact hh)
  have hmin : (if (6 : Int) < (x.1.length : Int) then (6 : Int) else (x.1.length : Int)) = (k : Int) := by split <;> omega
  have H0 := Lib.hid h0
  have HK := Lib.hid hk
  have hn' : (n : Int) ≤ (most : Int) := by omega
  have hn65 : (n : Int) ≤ 65536 := by omega
  have hm6 : (m : Int) ≤ 6 := by omega
  clear hn hbd
  clear hr hm hng hgo ho ht hgd h0 hmt hh hk
  have hl0 : (0 : Int) < (x.1.length : Int) := by have := H0.out; omega
  have hkc : (k : Int) ≤ (cap : Int) := by have := HK.out; omega
  go_enter Try.func15, Try.ntmps15
  go_wp2
  go_quiet ((go_at_call 19; exact Calls.quiet_of_same (HC.out _)))
  go_wp2
  go_ret2
  exact front_mk h1.out h2.out _

theorem front_any (B g most : Nat) (x : FS) (r : Option Nat) (w : World) (h : Fr w B g most x r) :
    Calls Try.prog 15 #[.pointer (some ⟨g, 0, none⟩)] w (FrontPost (fz most x.1) (tf most x.1) w) := by
  by_cases h0 : x.1.length = 0
  · exact front_none B g most x r w h h0
  · by_cases ht : x.1[0] = 48
    · obtain ⟨t, n, m, e, hh⟩ : ∃ t n m e, hd x.1 = (t, n, m, e) := ⟨_, _, _, _, rfl⟩
      by_cases he4 : e = 4
      · exact front_cut B g most x r w h (by omega) ht t n m e hh he4
      · by_cases he0 : e = 0
        · by_cases hn : most < n
          · exact front_long B g most x r w h (by omega) ht t n m e hh he0 hn
          · exact front_ok B g most x r w h (by omega) ht t n m e hh he0 hn
        · exact front_err B g most x r w h (by omega) ht t n m e hh he0 he4
    · exact front_tag B g most x r w h (by omega) ht
end Go.Proofs.Ytgihggaokamonaa
