/- The code's All and the document's All tell what the plain function al tells, for every text that is no longer than a text may be. -/
import Derived.Test.YtlnfbjgadcifkaaDoorBerK
import Derived.Test.YtlnfbjgadcifkaaDoorMem
namespace Go.Proofs.YtlnfbjgadcifkaaDoor
open Go.RowKit Go.Proofs.BerM Go.Proofs.BerK Go.Proofs.MemK

/-- All that stands in bytes, one behind the other, behind what was read so far; the error. -/
def alF : Nat → List UInt8 → List (Nat × List UInt8) → List (Nat × List UInt8) × Nat
  | 0, _, acc => (acc, 0)
  | f + 1, l, acc =>
    if l.length = 0 then (acc, 0) else
    if (rd l).2.2.2 ≠ 0 then ([], (rd l).2.2.2) else
    if acc.length = 1024 then ([], 3) else
    alF f (l.drop (rd l).2.2.1) (acc ++ [((rd l).1, (rd l).2.1)])
def al (l : List UInt8) : List (Nat × List UInt8) × Nat := alF l.length l []

/-- Tags with bytes, as cells. -/
def tc (a : List (Nat × List UInt8)) : List Value := a.flatMap fun x => [.int .i64 (x.1 : Int), .string ⟨x.2.toArray⟩]
theorem tc_snoc (a : List (Nat × List UInt8)) (t : Nat) (b : List UInt8) : tc (a ++ [(t, b)]) = tc a ++ [.int .i64 (t : Int), .string ⟨b.toArray⟩] := by simp [tc]

theorem alF_done (f : Nat) (l : List UInt8) (acc : List (Nat × List UInt8)) (h : l.length = 0) : alF f l acc = (acc, 0) := by
  cases f with
  | zero => rfl
  | succ f => rw [alF, if_pos h]
theorem alF_err (f : Nat) (l : List UInt8) (acc : List (Nat × List UInt8)) (hf : l.length ≤ f) (h : 0 < l.length) (t sz e : Nat) (b : List UInt8) (hr : rd l = (t, b, sz, e)) (he : e ≠ 0) : alF f l acc = ([], e) := by
  obtain ⟨g, rfl⟩ : ∃ g, f = g + 1 := ⟨f - 1, by omega⟩
  rw [alF, if_neg (by omega), hr, if_pos he]
theorem alF_full (f : Nat) (l : List UInt8) (acc : List (Nat × List UInt8)) (hf : l.length ≤ f) (h : 0 < l.length) (t sz : Nat) (b : List UInt8) (hr : rd l = (t, b, sz, 0)) (ha : acc.length = 1024) : alF f l acc = ([], 3) := by
  obtain ⟨g, rfl⟩ : ∃ g, f = g + 1 := ⟨f - 1, by omega⟩
  rw [alF, if_neg (by omega), hr, if_neg (by simp), if_pos ha]
theorem alF_step (f : Nat) (l : List UInt8) (acc : List (Nat × List UInt8)) (h : 0 < l.length) (t sz : Nat) (b : List UInt8) (hr : rd l = (t, b, sz, 0)) (ha : acc.length ≠ 1024) : alF (f + 1) l acc = alF f (l.drop sz) (acc ++ [(t, b)]) := by
  rw [alF, if_neg (by omega), hr, if_neg (by simp), if_neg ha]

theorem rd_bd (l : List UInt8) (t sz : Nat) (b : List UInt8) (h : rd l = (t, b, sz, 0)) : 2 ≤ sz ∧ sz ≤ l.length := by
  rw [rd] at h
  split at h
  · rename_i h1; simp only [Prod.mk.injEq] at h; exact absurd h.2.2.2 h1
  · split at h
    · simp at h
    · rename_i h1 h2
      simp only [Prod.mk.injEq] at h
      have := hd_bd l (hd l).1 (hd l).2.1 (hd l).2.2.1 (by apply Prod.ext; rfl; apply Prod.ext; rfl; apply Prod.ext; rfl; simpa using h1)
      omega

/-- How long a text in a slot is. -/
def strLen : Value → Nat
  | .string s => s.size
  | _ => 0

/-- All's answer. -/
def AllPost (l : List UInt8) (w : World) (en : Ending) (w' : World) : Prop :=
  ∃ v, en = .returned (.tuple #[v, .int .i64 ((al l).2 : Nat)]) ∧ w'.ownsRow w.heap.size 54 2 v (al l).1.length (tc (al l).1) ∧ Below w.heap.size w w'
theorem all_mk {l : List UInt8} {w w' : World} {v : Value} {a : List (Nat × List UInt8)} {e : Nat} (h : al l = (a, e)) (ho : w'.ownsRow w.heap.size 54 2 v a.length (tc a)) (hb : Below w.heap.size w w') : AllPost l w (.returned (.tuple #[v, .int .i64 (e : Nat)])) w' := ⟨v, by rw [h], by rw [h]; exact ho, hb⟩

theorem Tryd.info54 : (Tryd.prog.info? 54).map (fun i => (i.zero, i.size, i.bytes)) = some (some (.agg #[.int .i64 0, .string ByteArray.empty]), 2, 24) := by kernel_rfl

set_option maxHeartbeats 1600000 in
set_option maxRecDepth 100000 in
theorem al_any (s : ByteArray) (w : World) (hm : s.size ≤ maxLen) :
    Calls Tryd.prog 47 #[.string s] w (AllPost s.data.toList w) := by
  have hm' := hm
  unfold maxLen at hm'
  have HM := Lib.hid hm
  clear hm
  go_enter Tryd.func47, Tryd.ntmps47
  go_wp2
  go_loopw [0, 4] (fun v0 v4 wr => ∃ (s' : ByteArray) (acc : List (Nat × List UInt8)) (f : Nat), v0 = .string s' ∧ s'.size ≤ s.size ∧ s'.size ≤ f ∧ alF f s'.data.toList acc = al s.data.toList ∧ wr.ownsRow w.heap.size 54 2 v4 acc.length (tc acc) ∧ acc.length ≤ 1024 ∧ Below w.heap.size w wr) (fun v0 _ _ => strLen v0)
  case atStart => exact ⟨s, [], s.size, rfl, Nat.le_refl _, Nat.le_refl _, by rw [al, len_list], World.ownsRow_nil _ _ _ _, by simp, Below.refl _ _⟩
  case round =>
    obtain ⟨s', acc, f, rfl, hle, hf, hal, hown, hacc, hbel⟩ := hrel
    have HAL := Lib.hid hal
    clear hal
    obtain ⟨pa, pc, rfl⟩ := ownsRow_slice hown
    by_cases h0 : s'.size = 0
    · have hp : ¬ (0 : Int) < s'.size := by omega
      go_wp2
      go_ret2
      exact all_mk (by rw [← HAL.out, alF_done _ _ _ (by rw [len_list]; exact h0)]) hown hbel
    · have hp : (0 : Int) < s'.size := by omega
      obtain ⟨t, b, sz, e, hr⟩ : ∃ t b sz e, rd s'.data.toList = (t, b, sz, e) := ⟨_, _, _, _, rfl⟩
      have HC := Lib.hid fun w => rd_any s' w (Nat.le_trans hle HM.out) t sz e b hr
      by_cases he : e = 0
      · subst he
        by_cases hfull : acc.length = 1024
        · have HV := Lib.hid (alF_full f _ acc (by rw [len_list]; exact hf) (by rw [len_list]; omega) t sz b hr hfull)
          have hq : ((acc.length : Int) == 1024) = true := beq_iff_eq.2 (by omega)
          clear hr hfull
          go_wp2_with fail
          refine (HC.out _).mono ?_
          rintro e w1 ⟨rfl, hb1⟩
          go_wp2
          go_ret2
          exact all_mk (a := []) (e := 3) (by rw [← HAL.out, HV.out]) (World.ownsRow_nil _ _ _ _) ((hbel.trans (hb1.mono hbel.size)).alloc (Nat.le_trans hbel.size hb1.size) _)
        · obtain ⟨hz1, hz2⟩ := rd_bd _ _ _ _ hr
          rw [len_list] at hz2
          obtain ⟨g, rfl⟩ : ∃ g, f = g + 1 := ⟨f - 1, by omega⟩
          have HV := Lib.hid (alF_step g _ acc (by rw [len_list]; omega) t sz b hr hfull)
          have hx : (s'.extract sz s'.size).data.toList = s'.data.toList.drop sz := by rw [ext_data, List.take_of_length_le (by simp)]
          have HX := Lib.hid hx
          have hxs : (s'.extract sz s'.size).size = s'.size - sz := ext_size s' sz s'.size hz2 (Nat.le_refl _)
          have HXS := Lib.hid hxs
          have hq : ((acc.length : Int) == 1024) = false := beq_eq_false_iff_ne.2 (by omega)
          clear hr hx hxs
          go_wp2_with fail
          refine (HC.out _).mono ?_
          rintro e w1 ⟨rfl, hb1⟩
          have hown1 := ownsRow_below hown hb1
          have hs1 : w.heap.size ≤ w1.heap.size := Nat.le_trans hbel.size hb1.size
          go_wp2_with (at_builtin; refine wpList_pushg rfl (.tmp 23) (.tmp 25) 61 54 rfl w.heap.size 2 24 (.agg #[.int .i64 0, .string ByteArray.empty]) Tryd.info54 Tryd.underlying61 rfl (by decide) [.int .i64 (t : Int), .string ⟨b.toArray⟩] rfl (by simp [Value.oneCell']) (.slice pa acc.length pc) acc.length (tc acc) rfl _ rfl (by simp) (hown1.alloc _) (by unfold maxLen; omega) (by omega) (by simp; omega) ?_)
          intro v2 w2 hown2 hb2
          rw [← tc_snoc] at hown2
          have hsl := fun w : World => run_slice_string (P := Tryd.prog) w 9 s' .i64 .i64 (sz : Int) (s'.size : Int) Tryd.underlying9 (by omega) (by omega) (by omega)
          go_wp2
          refine ⟨⟨s'.extract sz s'.size, acc ++ [(t, b)], g, rfl, by rw [HXS.out]; omega, by rw [HXS.out]; omega, by rw [HX.out, ← HV.out, HAL.out], by rw [List.length_append]; exact hown2, by rw [List.length_append]; simp; omega, ((hbel.trans (hb1.mono hbel.size)).alloc hs1 _).trans hb2⟩, ?_⟩
          show strLen (.string (s'.extract sz s'.size)) < strLen (.string s')
          show (s'.extract sz s'.size).size < s'.size
          rw [HXS.out]; omega
      · have HV := Lib.hid (alF_err f _ acc (by rw [len_list]; exact hf) (by rw [len_list]; omega) t sz e b hr he)
        have hq : ((e : Int) != 0) = true := by rw [bne_iff_ne]; omega
        clear hr
        go_wp2_with fail
        refine (HC.out _).mono ?_
        rintro e w1 ⟨rfl, hb1⟩
        go_wp2
        go_ret2
        exact all_mk (a := []) (by rw [← HAL.out, HV.out]) (World.ownsRow_nil _ _ _ _) ((hbel.trans (hb1.mono hbel.size)).alloc (Nat.le_trans hbel.size hb1.size) _)

set_option maxHeartbeats 1600000 in
set_option maxRecDepth 100000 in
theorem ral_any (s : ByteArray) (w : World) (hm : s.size ≤ maxLen) :
    Calls Tryd.prog 33 #[.string s] w (AllPost s.data.toList w) := by
  have hm' := hm
  unfold maxLen at hm'
  have HM := Lib.hid hm
  clear hm
  go_enter Tryd.func33, Tryd.ntmps33
  go_wp2
  go_loopw [0, 4] (fun v0 v4 wr => ∃ (s' : ByteArray) (acc : List (Nat × List UInt8)) (f : Nat), v0 = .string s' ∧ s'.size ≤ s.size ∧ s'.size ≤ f ∧ alF f s'.data.toList acc = al s.data.toList ∧ wr.ownsRow w.heap.size 54 2 v4 acc.length (tc acc) ∧ acc.length ≤ 1024 ∧ Below w.heap.size w wr) (fun v0 _ _ => strLen v0)
  case atStart => exact ⟨s, [], s.size, rfl, Nat.le_refl _, Nat.le_refl _, by rw [al, len_list], World.ownsRow_nil _ _ _ _, by simp, Below.refl _ _⟩
  case round =>
    obtain ⟨s', acc, f, rfl, hle, hf, hal, hown, hacc, hbel⟩ := hrel
    have HAL := Lib.hid hal
    clear hal
    obtain ⟨pa, pc, rfl⟩ := ownsRow_slice hown
    by_cases h0 : s'.size = 0
    · have hse : s'.toList.isEmpty = true := by rw [ByteArray.toList_eq, List.isEmpty_iff]; exact List.eq_nil_of_length_eq_zero (by rw [len_list]; exact h0)
      go_wp2
      go_ret2
      exact all_mk (by rw [← HAL.out, alF_done _ _ _ (by rw [len_list]; exact h0)]) hown hbel
    · have hp : (0 : Int) < s'.size := by omega
      have hse := not_empty s' (by omega)
      obtain ⟨t, b, sz, e, hr⟩ : ∃ t b sz e, rd s'.data.toList = (t, b, sz, e) := ⟨_, _, _, _, rfl⟩
      have HC := Lib.hid fun w => rrd_any s' w (Nat.le_trans hle HM.out) t sz e b hr
      by_cases he : e = 0
      · subst he
        by_cases hfull : acc.length = 1024
        · have HV := Lib.hid (alF_full f _ acc (by rw [len_list]; exact hf) (by rw [len_list]; omega) t sz b hr hfull)
          have hq : ((acc.length : Int) == 1024) = true := beq_iff_eq.2 (by omega)
          clear hr hfull
          go_wp2_with fail
          refine (HC.out _).mono ?_
          rintro e w1 ⟨rfl, hb1⟩
          go_wp2
          go_ret2
          exact all_mk (a := []) (e := 3) (by rw [← HAL.out, HV.out]) (World.ownsRow_nil _ _ _ _) ((hbel.trans (hb1.mono hbel.size)).alloc (Nat.le_trans hbel.size hb1.size) _)
        · obtain ⟨hz1, hz2⟩ := rd_bd _ _ _ _ hr
          rw [len_list] at hz2
          obtain ⟨g, rfl⟩ : ∃ g, f = g + 1 := ⟨f - 1, by omega⟩
          have HV := Lib.hid (alF_step g _ acc (by rw [len_list]; omega) t sz b hr hfull)
          have hx : (s'.extract sz s'.size).data.toList = s'.data.toList.drop sz := by rw [ext_data, List.take_of_length_le (by simp)]
          have HX := Lib.hid hx
          have hxs : (s'.extract sz s'.size).size = s'.size - sz := ext_size s' sz s'.size hz2 (Nat.le_refl _)
          have HXS := Lib.hid hxs
          have hq : ((acc.length : Int) == 1024) = false := beq_eq_false_iff_ne.2 (by omega)
          clear hr hx hxs
          go_wp2_with fail
          refine (HC.out _).mono ?_
          rintro e w1 ⟨rfl, hb1⟩
          have hown1 := ownsRow_below hown hb1
          have hs1 : w.heap.size ≤ w1.heap.size := Nat.le_trans hbel.size hb1.size
          go_wp2_with (at_builtin; refine wpList_pushg rfl (.tmp 22) (.tmp 24) 61 54 rfl w.heap.size 2 24 (.agg #[.int .i64 0, .string ByteArray.empty]) Tryd.info54 Tryd.underlying61 rfl (by decide) [.int .i64 (t : Int), .string ⟨b.toArray⟩] rfl (by simp [Value.oneCell']) (.slice pa acc.length pc) acc.length (tc acc) rfl _ rfl (by simp) (hown1.alloc _) (by unfold maxLen; omega) (by omega) (by simp; omega) ?_)
          intro v2 w2 hown2 hb2
          rw [← tc_snoc] at hown2
          have hsl := fun w : World => run_slice_string (P := Tryd.prog) w 9 s' .i64 .i64 (sz : Int) (s'.size : Int) Tryd.underlying9 (by omega) (by omega) (by omega)
          go_wp2
          refine ⟨⟨s'.extract sz s'.size, acc ++ [(t, b)], g, rfl, by rw [HXS.out]; omega, by rw [HXS.out]; omega, by rw [HX.out, ← HV.out, HAL.out], by rw [List.length_append]; exact hown2, by rw [List.length_append]; simp; omega, ((hbel.trans (hb1.mono hbel.size)).alloc hs1 _).trans hb2⟩, ?_⟩
          show strLen (.string (s'.extract sz s'.size)) < strLen (.string s')
          show (s'.extract sz s'.size).size < s'.size
          rw [HXS.out]; omega
      · have HV := Lib.hid (alF_err f _ acc (by rw [len_list]; exact hf) (by rw [len_list]; omega) t sz e b hr he)
        have hq : ((e : Int) != 0) = true := by rw [bne_iff_ne]; omega
        clear hr
        go_wp2_with fail
        refine (HC.out _).mono ?_
        rintro e w1 ⟨rfl, hb1⟩
        go_wp2
        go_ret2
        exact all_mk (a := []) (by rw [← HAL.out, HV.out]) (World.ownsRow_nil _ _ _ _) ((hbel.trans (hb1.mono hbel.size)).alloc (Nat.le_trans hbel.size hb1.size) _)

end Go.Proofs.YtlnfbjgadcifkaaDoor
