/- The document's framer: its methods tell what the plain functions tell. -/
import Derived.Test.YtgihggaokamonaaFrameD
namespace Go.Proofs.Ytgihggaokamonaa
open Go Go.RowKit Go.Proofs.BerM Go.Proofs.BerK Go.Proofs.MemK
set_option linter.unusedVariables false

/-- The document's framer as a value. -/
abbrev fs (most : Nat) (s : ByteArray) (e : Nat) : Value := .agg #[.int .i64 (most : Nat), .string s, .int .i64 (e : Nat)]
/-- With the error that what is left tells. -/
def fTold (most : Nat) (x : FS) : FS := if x.2 ≠ 0 then x else (x.1, tf most x.1)
/-- What the document's methods hand back. -/
def RfPost (v : Value) (w : World) (en : Ending) (w' : World) : Prop := en = .returned v ∧ Below w.heap.size w w'
theorem fTold_err {most : Nat} {x : FS} (h : x.2 ≠ 0) : fTold most x = x := by rw [fTold, if_pos h]
theorem fTold_told {most : Nat} {x : FS} (h : toldF most x) : fTold most x = x := by
  unfold fTold
  split
  · rfl
  · rename_i h1
    obtain ⟨l, e⟩ := x
    simp only [ne_eq, Decidable.not_not] at h1
    subst h1
    rcases h with h | h
    · exact absurd rfl h
    · show (l, tf most l) = (l, 0)
      rw [h]

set_option maxHeartbeats 800000 in
set_option maxRecDepth 100000 in
theorem told_err (most : Nat) (s : ByteArray) (e : Nat) (w : World) (hx : e ≠ 0) (he : e ≤ 6) :
    Calls Try.prog 16 #[fs most s e] w (RfPost (fs most s e) w) := by
  have hq : ((e : Int) != 0) = true := by rw [bne_iff_ne]; omega
  clear hx
  go_enter Try.func16, Try.ntmps16
  go_wp2
  refine bodyPost_ret (v := fs most s e) (by simp [results, Try.results16, go_sem, fs]) rfl ⟨rfl, ?_⟩
  exact ((Below.refl _ _).alloc (Nat.le_refl _) _).alloc (by simp) _

set_option maxHeartbeats 800000 in
set_option maxRecDepth 100000 in
theorem told_none (most : Nat) (s : ByteArray) (w : World) (h0 : s.size = 0) :
    Calls Try.prog 16 #[fs most s 0] w (RfPost (fs most s (tf most s.data.toList)) w) := by
  have hv : tf most s.data.toList = 0 := by
    rw [tf, if_pos (by rw [len_list]; exact h0)]
  rw [hv]
  obtain rfl : s = ByteArray.empty := by apply ByteArray.ext; exact Array.eq_empty_of_size_eq_zero h0
  clear hv h0
  go_enter Try.func16, Try.ntmps16
  go_wp2
  refine bodyPost_ret (v := fs most ByteArray.empty 0) (by simp [results, Try.results16, go_sem, fs]) rfl ⟨rfl, ?_⟩
  exact ((Below.refl _ _).alloc (Nat.le_refl _) _).alloc (by simp) _

set_option maxHeartbeats 800000 in
set_option maxRecDepth 100000 in
theorem told_tag (most : Nat) (s : ByteArray) (w : World) (h0 : 0 < s.size) (ht : s[0] ≠ 48) :
    Calls Try.prog 16 #[fs most s 0] w (RfPost (fs most s (tf most s.data.toList)) w) := by
  have hv : tf most s.data.toList = 6 := by
    rw [tf, if_neg (by rw [len_list]; omega), at_get s 0 h0, if_pos ht]
  rw [hv]
  have hs0 := not_empty s h0
  have hb0 : s[0].toNat < 256 := s[0].toNat_lt
  have hn1 : ((s[0].toNat : Int) != 48) = true := by
    rw [bne_iff_ne]; intro hh; apply ht; apply UInt8.toNat_inj.1; show _ = 48; omega
  clear hv ht
  go_enter Try.func16, Try.ntmps16
  go_wp2
  refine bodyPost_ret (v := fs most s 6) (by simp [results, Try.results16, go_sem, fs]) rfl ⟨rfl, ?_⟩
  exact (((Below.refl _ _).alloc (Nat.le_refl _) _).alloc (by simp) _)

set_option maxHeartbeats 800000 in
set_option maxRecDepth 100000 in
theorem told_cut (most : Nat) (s : ByteArray) (w : World) (hm : s.size ≤ maxLen) (h0 : 0 < s.size) (ht : s[0] = 48) (t n m e : Nat) (hh : hd s.data.toList = (t, n, m, e)) (he4 : e = 4) :
    Calls Try.prog 16 #[fs most s 0] w (RfPost (fs most s (tf most s.data.toList)) w) := by
  have hv : tf most s.data.toList = 0 := by
    rw [tf, if_neg (by rw [len_list]; omega), at_get s 0 h0, if_neg (by rw [ht]; simp), hh, if_neg (by simp [he4]), if_pos (by simp [he4])]
  rw [hv]
  subst he4
  have hs0 := not_empty s h0
  have hn1 : ((s[0].toNat : Int) != 48) = false := by rw [ht]; rfl
  have hn2 : (s[0].toNat : Int) = 48 := by rw [ht]; rfl
  have HC := Lib.hid fun w => rhd_any s w hm t n m 4 hh
  clear hv ht hh hm
  go_enter Try.func16, Try.ntmps16
  go_wp2_with fail
  refine (HC.out _).mono ?_
  rintro en w1 ⟨rfl, hb1⟩
  obtain ⟨hc, hf⟩ := bcell hb1
  have hz : w.heap.size + 2 ≤ w1.heap.size := by have := hb1.size; simpa using this
  have hb2 : Below w.heap.size w w1 := (((Below.refl _ _).alloc (Nat.le_refl _) _).alloc (by simp) _).trans (hb1.mono (by simp; omega))
  have hA2 : w1.cell? ⟨w.heap.size, 2, none⟩ = some (.int .i64 0) := by rw [hc _ _ (by simp; omega)]; simp [go_sem]
  have hset : ∀ v, (w1.setCell ⟨w.heap.size, 2, none⟩ v).cell? ⟨w.heap.size, 2, none⟩ = some v := fun v => World.cell?_setCell_same _ _ _ hA2
  clear hb1
  go_wp2
  refine bodyPost_ret (v := fs most s 0) (by simp [results, Try.results16, go_sem, fs, *]) rfl ⟨rfl, ?_⟩
  exact (((hb2.setCell (by simp) _).setCell (by simp) _).setCell (by simp) _)

set_option maxHeartbeats 800000 in
set_option maxRecDepth 100000 in
theorem told_bad (most : Nat) (s : ByteArray) (w : World) (hm : s.size ≤ maxLen) (h0 : 0 < s.size) (ht : s[0] = 48) (t n m e : Nat) (hh : hd s.data.toList = (t, n, m, e)) (he0 : e ≠ 0) (he4 : e ≠ 4) :
    Calls Try.prog 16 #[fs most s 0] w (RfPost (fs most s (tf most s.data.toList)) w) := by
  have hv : tf most s.data.toList = e := by
    rw [tf, if_neg (by rw [len_list]; omega), at_get s 0 h0, if_neg (by rw [ht]; simp), hh, if_neg (by simpa using he0), if_neg (by simpa using he4)]
  rw [hv]
  have hs0 := not_empty s h0
  have hn1 : ((s[0].toNat : Int) != 48) = false := by rw [ht]; rfl
  have hn2 : (s[0].toNat : Int) = 48 := by rw [ht]; rfl
  have HC := Lib.hid fun w => rhd_any s w hm t n m e hh
  have hq1 : ((e : Int) == 0) = false := by rw [beq_eq_false_iff_ne]; omega
  have hq2 : ((e : Int) != 0) = true := by rw [bne_iff_ne]; omega
  have hq3 : ((e : Int) != 4) = true := by rw [bne_iff_ne]; omega
  clear he0 he4
  clear hv ht hh hm
  go_enter Try.func16, Try.ntmps16
  go_wp2_with fail
  refine (HC.out _).mono ?_
  rintro en w1 ⟨rfl, hb1⟩
  obtain ⟨hc, hf⟩ := bcell hb1
  have hz : w.heap.size + 2 ≤ w1.heap.size := by have := hb1.size; simpa using this
  have hb2 : Below w.heap.size w w1 := (((Below.refl _ _).alloc (Nat.le_refl _) _).alloc (by simp) _).trans (hb1.mono (by simp; omega))
  have hA2 : w1.cell? ⟨w.heap.size, 2, none⟩ = some (.int .i64 0) := by rw [hc _ _ (by simp; omega)]; simp [go_sem]
  have hset : ∀ v, (w1.setCell ⟨w.heap.size, 2, none⟩ v).cell? ⟨w.heap.size, 2, none⟩ = some v := fun v => World.cell?_setCell_same _ _ _ hA2
  clear hb1
  go_wp2
  refine bodyPost_ret (v := fs most s e) (by simp [results, Try.results16, go_sem, fs, *]) rfl ⟨rfl, ?_⟩
  exact ((((hb2.setCell (by simp) _).setCell (by simp) _).setCell (by simp) _).setCell (by simp) _)

set_option maxHeartbeats 800000 in
set_option maxRecDepth 100000 in
theorem told_long (most : Nat) (s : ByteArray) (w : World) (hm : s.size ≤ maxLen) (h0 : 0 < s.size) (ht : s[0] = 48) (t n m e : Nat) (hh : hd s.data.toList = (t, n, m, e)) (he0 : e = 0) (hn : most < n) :
    Calls Try.prog 16 #[fs most s 0] w (RfPost (fs most s (tf most s.data.toList)) w) := by
  have hv : tf most s.data.toList = 3 := by
    rw [tf, if_neg (by rw [len_list]; omega), at_get s 0 h0, if_neg (by rw [ht]; simp), hh, if_pos (by simp [he0]), if_pos hn]
  rw [hv]
  subst he0
  have hs0 := not_empty s h0
  have hn1 : ((s[0].toNat : Int) != 48) = false := by rw [ht]; rfl
  have hn2 : (s[0].toNat : Int) = 48 := by rw [ht]; rfl
  have HC := Lib.hid fun w => rhd_any s w hm t n m 0 hh
  have hn' : (most : Int) < (n : Int) := by omega
  clear hn
  clear hv ht hh hm
  go_enter Try.func16, Try.ntmps16
  go_wp2_with fail
  refine (HC.out _).mono ?_
  rintro en w1 ⟨rfl, hb1⟩
  obtain ⟨hc, hf⟩ := bcell hb1
  have hz : w.heap.size + 2 ≤ w1.heap.size := by have := hb1.size; simpa using this
  have hb2 : Below w.heap.size w w1 := (((Below.refl _ _).alloc (Nat.le_refl _) _).alloc (by simp) _).trans (hb1.mono (by simp; omega))
  have hA2 : w1.cell? ⟨w.heap.size, 2, none⟩ = some (.int .i64 0) := by rw [hc _ _ (by simp; omega)]; simp [go_sem]
  have hset : ∀ v, (w1.setCell ⟨w.heap.size, 2, none⟩ v).cell? ⟨w.heap.size, 2, none⟩ = some v := fun v => World.cell?_setCell_same _ _ _ hA2
  clear hb1
  go_wp2
  refine bodyPost_ret (v := fs most s 3) (by simp [results, Try.results16, go_sem, fs, *]) rfl ⟨rfl, ?_⟩
  exact ((((hb2.setCell (by simp) _).setCell (by simp) _).setCell (by simp) _).setCell (by simp) _)

set_option maxHeartbeats 800000 in
set_option maxRecDepth 100000 in
theorem told_ok (most : Nat) (s : ByteArray) (w : World) (hm : s.size ≤ maxLen) (h0 : 0 < s.size) (ht : s[0] = 48) (t n m e : Nat) (hh : hd s.data.toList = (t, n, m, e)) (he0 : e = 0) (hn : ¬ most < n) :
    Calls Try.prog 16 #[fs most s 0] w (RfPost (fs most s (tf most s.data.toList)) w) := by
  have hv : tf most s.data.toList = 0 := by
    rw [tf, if_neg (by rw [len_list]; omega), at_get s 0 h0, if_neg (by rw [ht]; simp), hh, if_pos (by simp [he0]), if_neg hn]
  rw [hv]
  subst he0
  have hs0 := not_empty s h0
  have hn1 : ((s[0].toNat : Int) != 48) = false := by rw [ht]; rfl
  have hn2 : (s[0].toNat : Int) = 48 := by rw [ht]; rfl
  have HC := Lib.hid fun w => rhd_any s w hm t n m 0 hh
  have hn' : (n : Int) ≤ (most : Int) := by omega
  clear hn
  clear hv ht hh hm
  go_enter Try.func16, Try.ntmps16
  go_wp2_with fail
  refine (HC.out _).mono ?_
  rintro en w1 ⟨rfl, hb1⟩
  obtain ⟨hc, hf⟩ := bcell hb1
  have hz : w.heap.size + 2 ≤ w1.heap.size := by have := hb1.size; simpa using this
  have hb2 : Below w.heap.size w w1 := (((Below.refl _ _).alloc (Nat.le_refl _) _).alloc (by simp) _).trans (hb1.mono (by simp; omega))
  have hA2 : w1.cell? ⟨w.heap.size, 2, none⟩ = some (.int .i64 0) := by rw [hc _ _ (by simp; omega)]; simp [go_sem]
  have hset : ∀ v, (w1.setCell ⟨w.heap.size, 2, none⟩ v).cell? ⟨w.heap.size, 2, none⟩ = some v := fun v => World.cell?_setCell_same _ _ _ hA2
  clear hb1
  go_wp2
  refine bodyPost_ret (v := fs most s 0) (by simp [results, Try.results16, go_sem, fs, *]) rfl ⟨rfl, ?_⟩
  exact (((hb2.setCell (by simp) _).setCell (by simp) _).setCell (by simp) _)

theorem told_any (most : Nat) (s : ByteArray) (e : Nat) (w : World) (hm : s.size ≤ maxLen) (he : e ≤ 6) (e' : Nat) (he' : (if e ≠ 0 then e else tf most s.data.toList) = e') :
    Calls Try.prog 16 #[fs most s e] w (RfPost (fs most s e') w) := by
  by_cases h : e ≠ 0
  · rw [if_pos h] at he'
    subst he'
    exact told_err most s e w h he
  · rw [if_neg h] at he'
    obtain rfl : e = 0 := by simpa using h
    subst he'
    by_cases h0 : s.size = 0
    · exact told_none most s w h0
    · by_cases ht : s[0] = 48
      · obtain ⟨t, n, m, e, hh⟩ : ∃ t n m e, hd s.data.toList = (t, n, m, e) := ⟨_, _, _, _, rfl⟩
        by_cases he4 : e = 4
        · exact told_cut most s w hm (by omega) ht t n m e hh he4
        · by_cases he0 : e = 0
          · by_cases hn : most < n
            · exact told_long most s w hm (by omega) ht t n m e hh he0 hn
            · exact told_ok most s w hm (by omega) ht t n m e hh he0 hn
          · exact told_bad most s w hm (by omega) ht t n m e hh he0 he4
      · exact told_tag most s w (by omega) ht

/-! ### Feed -/
theorem fold_data (s t : ByteArray) : (s ++ t).data.toList = s.data.toList ++ t.data.toList := by rw [ByteArray.data_append]; simp
set_option maxHeartbeats 800000 in
set_option maxRecDepth 100000 in
theorem rfeed_err (most : Nat) (s t : ByteArray) (e : Nat) (w : World) (he : e ≠ 0) :
    Calls Try.prog 9 #[fs most s e, .string t] w (RfPost (fs most s e) w) := by
  have hq : ((e : Int) != 0) = true := by rw [bne_iff_ne]; omega
  clear he
  go_enter Try.func9, Try.ntmps9
  go_wp2
  refine bodyPost_ret (v := fs most s e) (by simp [results, Try.results9, go_sem, fs]) rfl ⟨rfl, ?_⟩
  exact ((Below.refl _ _).alloc (Nat.le_refl _) _).alloc (by simp) _
set_option maxHeartbeats 800000 in
set_option maxRecDepth 100000 in
theorem rfeed_ok (most : Nat) (s t : ByteArray) (w : World) (hm : s.size + t.size ≤ 1000000) (e' : Nat) (he' : tf most (s.data.toList ++ t.data.toList) = e') :
    Calls Try.prog 9 #[fs most s 0, .string t] w (RfPost (fs most (s ++ t) e') w) := by
  have HT := Lib.hid fun w => told_any most (s ++ t) 0 w (by rw [ByteArray.size_append]; unfold maxLen; omega) (by omega) e' (by rw [if_neg (by simp), fold_data]; exact he')
  have hm' : (s.size : Int) + (t.size : Int) ≤ 1000000 := by omega
  clear he'
  go_enter Try.func9, Try.ntmps9
  go_wp2_with fail
  refine (HT.out _).mono ?_
  rintro en w1 ⟨rfl, hb1⟩
  obtain ⟨hc, hf⟩ := bcell hb1
  have hz : w.heap.size + 2 ≤ w1.heap.size := by have := hb1.size; simpa using this
  go_wp2
  refine bodyPost_ret (v := fs most (s ++ t) e') (by simp [results, Try.results9, go_sem, fs, *]) rfl ⟨rfl, ?_⟩
  have hb2 : Below w.heap.size w w1 := (((Below.refl _ _).alloc (Nat.le_refl _) _).alloc (by simp) _).trans (hb1.mono (by simp; omega))
  exact (((hb2.setCell (by simp) _).setCell (by simp) _).setCell (by simp) _)

/-! ### Next -/
/-- What the document's Next tells. -/
abbrev rnv (most : Nat) (s : ByteArray) (e : Nat) (t : ByteArray) (ok : Bool) : Value := .tuple #[fs most s e, .string t, .bool ok]
set_option maxHeartbeats 800000 in
set_option maxRecDepth 100000 in
theorem rnext_err (most : Nat) (s : ByteArray) (e : Nat) (w : World) (hm : s.size ≤ maxLen) (he : e ≠ 0) (he6 : e ≤ 6) :
    Calls Try.prog 11 #[fs most s e] w (RfPost (rnv most s e ⟨#[]⟩ false) w) := by
  have HT := Lib.hid fun w => told_any most s e w hm he6 e (by rw [if_pos he])
  have hq : ((e : Int) != 0) = true := by rw [bne_iff_ne]; omega
  clear he
  go_enter Try.func11, Try.ntmps11
  go_wp2_with fail
  refine (HT.out _).mono ?_
  rintro en w1 ⟨rfl, hb1⟩
  have hz : w.heap.size + 2 ≤ w1.heap.size := by have := hb1.size; simpa using this
  have hb2 : Below w.heap.size w w1 := (((Below.refl _ _).alloc (Nat.le_refl _) _).alloc (by simp) _).trans (hb1.mono (by simp; omega))
  obtain ⟨hoA, hoB⟩ := six hb1
  obtain ⟨hA0, hA1, hA2⟩ := obj3 hoA
  obtain ⟨hB0, hB1, hB2⟩ := obj3 hoB
  have hyA0 := obj_free hoA 0
  have hyA1 := obj_free hoA 1
  have hyA2 := obj_free hoA 2
  have hyB0 := obj_free hoB 0
  have hyB1 := obj_free hoB 1
  have hyB2 := obj_free hoB 2
  have HOA := Lib.hid hoA
  have HOB := Lib.hid hoB
  clear hoA hoB hb1
  go_wp2
  refine bodyPost_ret (v := rnv most s e ⟨#[]⟩ false) (by simp [results, Try.results11, go_sem, fs, *]) rfl ⟨rfl, ?_⟩
  exact below_set3 (below_set3 hb2 (by simp) _ _ _) (by simp) _ _ _
set_option maxHeartbeats 800000 in
set_option maxRecDepth 100000 in
theorem rnext_none (most : Nat) (s : ByteArray) (w : World) (hm : s.size ≤ maxLen) (ht : tf most s.data.toList = 0) (t sz e : Nat) (b : List UInt8) (hr : rd s.data.toList = (t, b, sz, e)) (he : e ≠ 0) :
    Calls Try.prog 11 #[fs most s 0] w (RfPost (rnv most s 0 ⟨#[]⟩ false) w) := by
  have HT := Lib.hid fun w => told_any most s 0 w hm (by simp) 0 (by rw [if_neg (by simp)]; exact ht)
  have HC := Lib.hid fun w => rrd_any s w hm t sz e b hr
  have hq : ((e : Int) != 0) = true := by rw [bne_iff_ne]; omega
  clear he hr ht
  go_enter Try.func11, Try.ntmps11
  go_wp2_with fail
  refine (HT.out _).mono ?_
  rintro en w1 ⟨rfl, hb1⟩
  have hz : w.heap.size + 2 ≤ w1.heap.size := by have := hb1.size; simpa using this
  have hb2 : Below w.heap.size w w1 := (((Below.refl _ _).alloc (Nat.le_refl _) _).alloc (by simp) _).trans (hb1.mono (by simp; omega))
  obtain ⟨hoA, hoB⟩ := six hb1
  obtain ⟨hA0, hA1, hA2⟩ := obj3 hoA
  obtain ⟨hB0, hB1, hB2⟩ := obj3 hoB
  have hyA0 := obj_free hoA 0
  have hyA1 := obj_free hoA 1
  have hyA2 := obj_free hoA 2
  have hyB0 := obj_free hoB 0
  have hyB1 := obj_free hoB 1
  have hyB2 := obj_free hoB 2
  have HOA := Lib.hid hoA
  have HOB := Lib.hid hoB
  clear hoA hoB hb1
  go_wp2_with fail
  have hC := obj_set3 HOA.out (.int .i64 (most : Nat)) (.string s) (.int .i64 0)
  have hD := obj_set3_other HOB.out (show w.heap.size + 1 ≠ w.heap.size by omega) (.int .i64 (most : Nat)) (.string s) (.int .i64 0)
  have hE := below_set3 hb2 (Nat.le_refl _) (.int .i64 (most : Nat)) (.string s) (.int .i64 0)
  have HC' := HC.out (((w1.setCell ⟨w.heap.size, 0, none⟩ (.int .i64 (most : Nat))).setCell ⟨w.heap.size, 1, none⟩ (.string s)).setCell ⟨w.heap.size, 2, none⟩ (.int .i64 0))
  have hzC : (((w1.setCell ⟨w.heap.size, 0, none⟩ (.int .i64 (most : Nat))).setCell ⟨w.heap.size, 1, none⟩ (.string s)).setCell ⟨w.heap.size, 2, none⟩ (.int .i64 0)).heap.size = w1.heap.size := by simp
  refine HC'.mono ?_
  rintro en w2 ⟨rfl, hb3⟩
  have hoA2 := obj_below hC hb3 (by rw [hzC]; omega)
  have hoB2 := obj_below hD hb3 (by rw [hzC]; omega)
  have hb4 := hE.trans (hb3.mono (by rw [hzC]; omega))
  have hz2 : w.heap.size + 2 ≤ w2.heap.size := by have := hb3.size; rw [hzC] at this; omega
  clear hC hD hE HC' hzC hb3 hA0 hA1 hA2 hB0 hB1 hB2 hyA0 hyA1 hyA2 hyB0 hyB1 hyB2 hb2 HOA HOB
  obtain ⟨hA0, hA1, hA2⟩ := obj3 hoA2
  obtain ⟨hB0, hB1, hB2⟩ := obj3 hoB2
  have hyA0 := obj_free hoA2 0
  have hyA1 := obj_free hoA2 1
  have hyA2 := obj_free hoA2 2
  have hyB0 := obj_free hoB2 0
  have hyB1 := obj_free hoB2 1
  have hyB2 := obj_free hoB2 2
  have hoA3 := obj_alloc hoA2 (.cells #[.int .i64 (t : Nat), .string ⟨b.toArray⟩] 50)
  have hoB3 := obj_alloc hoB2 (.cells #[.int .i64 (t : Nat), .string ⟨b.toArray⟩] 50)
  obtain ⟨hP0, hP1, hP2⟩ := obj3 hoA3
  obtain ⟨hQ0, hQ1, hQ2⟩ := obj3 hoB3
  have hyP0 := obj_free hoA3 0
  have hyP1 := obj_free hoA3 1
  have hyP2 := obj_free hoA3 2
  have hyQ0 := obj_free hoB3 0
  have hyQ1 := obj_free hoB3 1
  have hyQ2 := obj_free hoB3 2
  clear hoA2 hoB2 hoA3 hoB3
  go_wp2
  refine bodyPost_ret (v := rnv most s 0 ⟨#[]⟩ false) (by simp [results, Try.results11, go_sem, fs, *]) rfl ⟨rfl, ?_⟩
  exact below_set3 (hb4.alloc (by omega) _) (by simp) _ _ _
set_option maxHeartbeats 800000 in
set_option maxRecDepth 100000 in
theorem rnext_ok (most : Nat) (s : ByteArray) (w : World) (hm : s.size ≤ maxLen) (ht : tf most s.data.toList = 0) (t sz : Nat) (b : List UInt8) (hr : rd s.data.toList = (t, b, sz, 0)) (e' : Nat) (he' : tf most (s.data.toList.drop sz) = e') :
    Calls Try.prog 11 #[fs most s 0] w (RfPost (rnv most ⟨(s.data.toList.drop sz).toArray⟩ e' ⟨(s.data.toList.take sz).toArray⟩ true) w) := by
  have HT := Lib.hid fun w => told_any most s 0 w hm (by simp) 0 (by rw [if_neg (by simp)]; exact ht)
  have HC := Lib.hid fun w => rrd_any s w hm t sz 0 b hr
  have hbd := rd_bd _ _ _ _ hr
  rw [len_list] at hbd
  have hs2 : s.extract sz s.size = ⟨(s.data.toList.drop sz).toArray⟩ := by rw [ext_eq, List.take_of_length_le (by rw [List.length_drop, len_list]; omega)]
  have hs1 : s.extract 0 sz = ⟨(s.data.toList.take sz).toArray⟩ := by rw [ext_eq, List.drop_zero, Nat.sub_zero]
  have HT2 := Lib.hid fun w => told_any most (s.extract sz s.size) 0 w (by rw [hs2]; show (s.data.toList.drop sz).length ≤ _; rw [List.length_drop, len_list]; omega) (by simp) e' (by rw [if_neg (by simp), hs2]; exact he')
  have HS1 := Lib.hid hs1
  have HS2 := Lib.hid hs2
  have hzs : (sz : Int) ≤ (s.size : Int) := by omega
  clear hr ht hbd hs1 hs2 he'
  go_enter Try.func11, Try.ntmps11
  go_wp2_with fail
  refine (HT.out _).mono ?_
  rintro en w1 ⟨rfl, hb1⟩
  have hz : w.heap.size + 2 ≤ w1.heap.size := by have := hb1.size; simpa using this
  have hb2 : Below w.heap.size w w1 := (((Below.refl _ _).alloc (Nat.le_refl _) _).alloc (by simp) _).trans (hb1.mono (by simp; omega))
  obtain ⟨hoA, hoB⟩ := six hb1
  obtain ⟨hA0, hA1, hA2⟩ := obj3 hoA
  obtain ⟨hB0, hB1, hB2⟩ := obj3 hoB
  have hyA0 := obj_free hoA 0
  have hyA1 := obj_free hoA 1
  have hyA2 := obj_free hoA 2
  have hyB0 := obj_free hoB 0
  have hyB1 := obj_free hoB 1
  have hyB2 := obj_free hoB 2
  have HOA := Lib.hid hoA
  have HOB := Lib.hid hoB
  clear hoA hoB hb1
  go_wp2_with fail
  have hC := obj_set3 HOA.out (.int .i64 (most : Nat)) (.string s) (.int .i64 0)
  have hD := obj_set3_other HOB.out (show w.heap.size + 1 ≠ w.heap.size by omega) (.int .i64 (most : Nat)) (.string s) (.int .i64 0)
  have hE := below_set3 hb2 (Nat.le_refl _) (.int .i64 (most : Nat)) (.string s) (.int .i64 0)
  have HC' := HC.out (((w1.setCell ⟨w.heap.size, 0, none⟩ (.int .i64 (most : Nat))).setCell ⟨w.heap.size, 1, none⟩ (.string s)).setCell ⟨w.heap.size, 2, none⟩ (.int .i64 0))
  have hzC : (((w1.setCell ⟨w.heap.size, 0, none⟩ (.int .i64 (most : Nat))).setCell ⟨w.heap.size, 1, none⟩ (.string s)).setCell ⟨w.heap.size, 2, none⟩ (.int .i64 0)).heap.size = w1.heap.size := by simp
  refine HC'.mono ?_
  rintro en w2 ⟨rfl, hb3⟩
  have hoA2 := obj_below hC hb3 (by rw [hzC]; omega)
  have hoB2 := obj_below hD hb3 (by rw [hzC]; omega)
  have hb4 := hE.trans (hb3.mono (by rw [hzC]; omega))
  have hz2 : w.heap.size + 2 ≤ w2.heap.size := by have := hb3.size; rw [hzC] at this; omega
  clear hC hD hE HC' hzC hb3 hA0 hA1 hA2 hB0 hB1 hB2 hyA0 hyA1 hyA2 hyB0 hyB1 hyB2 hb2 HOA HOB
  obtain ⟨hA0, hA1, hA2⟩ := obj3 hoA2
  obtain ⟨hB0, hB1, hB2⟩ := obj3 hoB2
  have hyA0 := obj_free hoA2 0
  have hyA1 := obj_free hoA2 1
  have hyA2 := obj_free hoA2 2
  have hyB0 := obj_free hoB2 0
  have hyB1 := obj_free hoB2 1
  have hyB2 := obj_free hoB2 2
  have hoA3 := obj_alloc hoA2 (.cells #[.int .i64 (t : Nat), .string ⟨b.toArray⟩] 50)
  have hoB3 := obj_alloc hoB2 (.cells #[.int .i64 (t : Nat), .string ⟨b.toArray⟩] 50)
  obtain ⟨hP0, hP1, hP2⟩ := obj3 hoA3
  obtain ⟨hQ0, hQ1, hQ2⟩ := obj3 hoB3
  have hyP0 := obj_free hoA3 0
  have hyP1 := obj_free hoA3 1
  have hyP2 := obj_free hoA3 2
  have hyQ0 := obj_free hoB3 0
  have hyQ1 := obj_free hoB3 1
  have hyQ2 := obj_free hoB3 2
  have HOB3 := Lib.hid hoB3
  clear hoA2 hoB2 hoA3 hoB3
  go_wp2_with fail
  have hF := obj_set_other HOB3.out (p := ⟨w.heap.size, 1, none⟩) (show w.heap.size + 1 ≠ w.heap.size by omega) (.string (s.extract sz s.size))
  have hG : Below w.heap.size w ((w2.alloc (.cells #[.int .i64 (t : Nat), .string ⟨b.toArray⟩] 50)).setCell ⟨w.heap.size, 1, none⟩ (.string (s.extract sz s.size))) := (hb4.alloc (by omega) _).setCell (by simp) _
  have hzG : ((w2.alloc (.cells #[.int .i64 (t : Nat), .string ⟨b.toArray⟩] 50)).setCell ⟨w.heap.size, 1, none⟩ (.string (s.extract sz s.size))).heap.size = w2.heap.size + 1 := by simp
  refine (HT2.out _).mono ?_
  rintro en w3 ⟨rfl, hb5⟩
  have hoB4 := obj_below hF hb5 (by rw [hzG]; omega)
  have hb6 := hG.trans (hb5.mono (by rw [hzG]; omega))
  have hz3 : w.heap.size + 2 ≤ w3.heap.size := by have := hb5.size; rw [hzG] at this; omega
  clear hF hG hzG hb5 hA0 hA1 hA2 hB0 hB1 hB2 hyA0 hyA1 hyA2 hyB0 hyB1 hyB2 hP0 hP1 hP2 hQ0 hQ1 hQ2 hyP0 hyP1 hyP2 hyQ0 hyQ1 hyQ2 hb4 HOB3
  obtain ⟨hB0, hB1, hB2⟩ := obj3 hoB4
  have hyB0 := obj_free hoB4 0
  have hyB1 := obj_free hoB4 1
  have hyB2 := obj_free hoB4 2
  clear hoB4
  go_wp2
  rw [← HS1.out, ← HS2.out]
  refine bodyPost_ret (v := rnv most (s.extract sz s.size) e' (s.extract 0 sz) true) (by simp [results, Try.results11, go_sem, fs, *]) rfl ⟨rfl, ?_⟩
  exact below_set3 hb6 (by simp) _ _ _

/-! ### Together -/
/-- The document's framer in the plain functions' state. -/
abbrev fx (most : Nat) (x : FS) : Value := fs most ⟨x.1.toArray⟩ x.2
theorem rfeed_any (most : Nat) (x : FS) (t : ByteArray) (w : World) (hm : x.1.length + t.size ≤ 1000000) :
    Calls Try.prog 9 #[fx most x, .string t] w (RfPost (fx most (fFeed most x t.data.toList)) w) := by
  obtain ⟨l, e⟩ := x
  unfold fFeed
  by_cases he : e ≠ 0
  · rw [if_pos he]
    exact rfeed_err most _ t e w he
  · obtain rfl : e = 0 := by simpa using he
    rw [if_neg (by simp)]
    have := rfeed_ok most ⟨l.toArray⟩ t w (by show l.toArray.size + _ ≤ _; simpa using hm) _ rfl
    have e1 : (⟨l.toArray⟩ : ByteArray) ++ t = ⟨(l ++ t.data.toList).toArray⟩ := by
      apply ByteArray.ext
      rw [ByteArray.data_append]; simp
    rw [e1] at this
    exact this
theorem rnext_any (most : Nat) (x : FS) (w : World) (hm : x.1.length ≤ 1000000) (ht : toldF most x) (he : x.2 ≤ 6) :
    Calls Try.prog 11 #[fx most x] w (RfPost (rnv most ⟨(fNext most x).1.1.toArray⟩ (fNext most x).1.2 ⟨(fNext most x).2.1.toArray⟩ (fNext most x).2.2) w) := by
  obtain ⟨l, e⟩ := x
  have hml : (⟨l.toArray⟩ : ByteArray).size ≤ maxLen := by show l.toArray.size ≤ _; unfold maxLen; simp; simp at hm; omega
  by_cases h0 : e ≠ 0
  · rw [next_no (.inl h0)]
    exact rnext_err most _ e w hml h0 he
  · obtain rfl : e = 0 := by simpa using h0
    have ht' : tf most l = 0 := by
      rcases ht with h | h
      · exact absurd rfl h
      · exact h
    obtain ⟨t, b, sz, e2, hr⟩ : ∃ t b sz e2, rd l = (t, b, sz, e2) := ⟨_, _, _, _, rfl⟩
    by_cases h2 : e2 = 0
    · subst h2
      rw [next_yes hr]
      exact rnext_ok most ⟨l.toArray⟩ w hml ht' t sz b hr _ rfl
    · rw [next_no (.inr (by rw [hr]; exact h2))]
      exact rnext_none most ⟨l.toArray⟩ w hml ht' t sz e2 b hr h2
end Go.Proofs.Ytgihggaokamonaa
