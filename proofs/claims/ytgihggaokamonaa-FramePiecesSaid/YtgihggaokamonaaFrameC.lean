/- The framer's drop: the first bytes of what is left are gone. -/
import Derived.Test.YtgihggaokamonaaFrameB
namespace Go.Proofs.Ytgihggaokamonaa
open Go Go.RowKit Go.Proofs.BerM Go.Proofs.BerK Go.Proofs.MemK
set_option linter.unusedVariables false

/-- What a method hands back that turns the framer: its block alone and new ones have changed; what is left lies where it lay, or in a new block. -/
def TurnPost (v : Value) (B g most : Nat) (x : FS) (r : Option Nat) (w : World) (en : Ending) (w' : World) : Prop :=
  en = .returned v ∧ ∃ r', Fr w' B g most x r' ∧ (r' = r ∨ ∃ k, r' = some k ∧ w.heap.size ≤ k) ∧ Chg (fun k => k = g) w w'

theorem set_23 {w : World} {g : Nat} {a b c d : Value} {t : TypeId} (h : w.heap[g]? = some (.cells #[a, b, c, d] t (0, 0))) (c' d' : Value) :
    ((w.setCell ⟨g, 2, none⟩ c').setCell ⟨g, 3, none⟩ d').heap[g]? = some (.cells #[a, b, c', d'] t (0, 0)) ∧ Chg (fun k => k = g) w ((w.setCell ⟨g, 2, none⟩ c').setCell ⟨g, 3, none⟩ d') :=
  ⟨obj_set (obj_set h 2 c') 3 d', Chg.setCell (S := fun k => k = g) (Chg.setCell (S := fun k => k = g) (Chg.refl _ w) (p := ⟨g, 2, none⟩) (fun _ => rfl) _) (p := ⟨g, 3, none⟩) (fun _ => rfl) _⟩
theorem chg_self {w w' : World} {g k : Nat} (h : Chg (fun k => k = g) w w') (hk : k < w.heap.size) (hne : k ≠ g) : w'.heap[k]? = w.heap[k]? := h.block k hk hne

set_option maxHeartbeats 800000 in
set_option maxRecDepth 100000 in
theorem drop_keep (B g most size : Nat) (l : List UInt8) (e : Nat) (gone : Nat) (b o cap : Nat) (w : World) (ho : w.heap[g]? = some (.cells #[.int .i64 most, .int .i64 e, .slice (some ⟨b, o, none⟩) l.length cap, .int .i64 gone] 44 (0, 0)))
    (hm : Mid w B 5 (.slice (some ⟨b, o, none⟩) l.length cap) l) (hbg : b ≠ g) (hle : l.length ≤ 1000000) (hmo : most ≤ 65536) (he : e ≤ 6) (hs : size ≤ l.length) (hlc : l.length ≤ cap) (hk : gone + size < l.length - size) :
    Calls Try.prog 17 #[.pointer (some ⟨g, 0, none⟩), .int .i64 size] w (TurnPost (.tuple #[]) B g most (l.drop size, e) (some b) w) := by
  obtain ⟨hc0, hc1, hc2, hc3⟩ := obj4 ho
  have hz2 := obj_free ho 2
  have hz3 := obj_free ho 3
  have hne : ¬ cap = size := by omega
  have HM := Lib.hid hm
  have HO := Lib.hid ho
  have HBG := Lib.hid hbg
  clear hm ho hbg
  have hk' : ((gone : Int) + (size : Int)) < ((l.length - size : Nat) : Int) := by omega
  go_enter Try.func17, Try.ntmps17
  go_wp2
  go_quiet (fail)
  go_wp2
  refine bodyPost_ret (v := .tuple #[]) (by simp [results, Try.results17, go_sem]) rfl ?_
  obtain ⟨h1, h2⟩ := set_23 HO.out (.slice (some ⟨b, o + size, none⟩) (l.length - size) (cap - size)) (.int .i64 (gone + size))
  refine ⟨rfl, some b, ⟨gone + size, .slice (some ⟨b, o + size, none⟩) (l.length - size) (cap - size), ?_, ?_, rfl, ?_, ?_, ?_, hmo, he⟩, .inl rfl, h2.drewN _⟩
  · exact h1
  · exact mid_heap (mid_chg (mid_drop HM.out size hs) h2 (fun k hk => by simp [Value.ownBlock] at hk; subst hk; exact HBG.out)) rfl
  · intro h; exact HBG.out (by injection h)
  · simp; omega
  · simp; omega

theorem mid_all {w : World} {B : Nat} {e : TypeId} {g o n : Nat} {l : List UInt8} (h : Mid w B e (.slice (some ⟨g, o, none⟩) n n) l) : Mid w B e (.slice (some ⟨g, o, none⟩) 0 0) [] := by
  have := mid_drop_all h n (Nat.le_refl _) rfl
  rw [(mid_len h).1, Nat.sub_self, List.drop_length] at this
  exact this
set_option maxHeartbeats 800000 in
set_option maxRecDepth 100000 in
theorem drop_copy (B g most size : Nat) (l : List UInt8) (e : Nat) (gone : Nat) (b o cap : Nat) (w : World) (ho : w.heap[g]? = some (.cells #[.int .i64 most, .int .i64 e, .slice (some ⟨b, o, none⟩) l.length cap, .int .i64 gone] 44 (0, 0)))
    (hm : Mid w B 5 (.slice (some ⟨b, o, none⟩) l.length cap) l) (hbg : b ≠ g) (hB : B ≤ w.heap.size) (hgo : gone ≤ 1000000) (hle : l.length ≤ 1000000) (hmo : most ≤ 65536) (he : e ≤ 6) (hs : size ≤ l.length) (hlc : l.length ≤ cap) (hk : ¬ gone + size < l.length - size)
    (hne : ¬ cap = size) :
    Calls Try.prog 17 #[.pointer (some ⟨g, 0, none⟩), .int .i64 size] w (TurnPost (.tuple #[]) B g most (l.drop size, e) (some b) w) := by
  obtain ⟨i0, hi, hz0, hz1, hzz2⟩ := info_parts Try.info5
  obtain ⟨hc0, hc1, hc2, hc3⟩ := obj4 ho
  have hz2 := obj_free ho 2
  have hz3 := obj_free ho 3
  have HM := Lib.hid hm
  have HO := Lib.hid ho
  have HBG := Lib.hid hbg
  have HZ1 := Lib.hid hz1
  have HZ2 := Lib.hid hzz2
  have HI := Lib.hid hi
  have HZ0 := Lib.hid hz0
  clear hm ho hbg hi hz0 hz1 hzz2
  have hk' : ((l.length - size : Nat) : Int) ≤ ((gone : Int) + (size : Int)) := by omega
  go_enter Try.func17, Try.ntmps17
  go_wp2
  go_quiet (fail)
  obtain ⟨h1, h2⟩ := set_23 HO.out (.slice (some ⟨b, o + size, none⟩) (l.length - size) (cap - size)) (.int .i64 (gone + size))
  have h3 := mid_chg (mid_drop HM.out size hs) h2 (fun k hk => by simp [Value.ownBlock] at hk; subst hk; exact HBG.out)
  have hw1 : (((w.setCell ⟨g, 2, none⟩ (.slice (some ⟨b, o + size, none⟩) (l.length - size) (cap - size))).setCell ⟨g, 3, none⟩ (.int .i64 (gone + size))).drewN nq).heap[g]? = _ := h1
  have hw2 := h2.drewN nq
  have hw3 := mid_heap (w' := (((w.setCell ⟨g, 2, none⟩ (.slice (some ⟨b, o + size, none⟩) (l.length - size) (cap - size))).setCell ⟨g, 3, none⟩ (.int .i64 (gone + size))).drewN nq)) h3 rfl
  clear h1 h2 h3 hc0 hc1 hc2 hc3 hz2 hz3
  generalize (((w.setCell ⟨g, 2, none⟩ (.slice (some ⟨b, o + size, none⟩) (l.length - size) (cap - size))).setCell ⟨g, 3, none⟩ (.int .i64 (gone + size))).drewN nq) = w1 at hw1 hw2 hw3 ⊢
  obtain ⟨hc0, hc1, hc2, hc3⟩ := obj4 hw1
  have HW1 := Lib.hid hw1
  have HW3 := Lib.hid hw3
  clear hw1 hw3
  go_wp2_with (at_make; refine wpList_make_full _ rfl _ _ 39 rfl w1.heap.size 5 i0 (.int .u8 0) 1 Try.underlying39 HI.out HZ0.out HZ1.out _ _ _ _ (l.length - size) rfl rfl ?e1 ?e2 ?b0 ?b1 ?b2 ?_)
  case e1 => rfl
  case e2 => rfl
  case b0 => rw [HZ2.out]; omega
  case b1 => unfold maxLen; omega
  case b2 => exact Nat.le_refl _
  intro w2 hown hg2
  obtain ⟨X, hxl, hX⟩ := owned_block' hown
  have hb12 := below_of_grown hg2
  have hg1 : g < w1.heap.size := obj_lt HW1.out
  have hsz : Hid ((Try.prog.info? 5).map (·.size) = some 1) := by unfold Hid; rw [HI.out]; simp [HZ1.out]
  have hd2 := (hb12.cell (p := ⟨g, 2, none⟩) hg1).trans hc2
  have HM2 := Lib.hid (mid_cells (mid_chg (S := fun _ => False) HW3.out (Chg.ofBelow hb12) (fun _ _ h => h)))
  have HX := Lib.hid hX
  have HXL := Lib.hid hxl
  clear hown hg2 hX hc0 hc1 hc2 hc3 hxl
  go_wp2_with ((with_reducible refine wpList_copy_splice rfl (.tmp 38) (.tmp 42) 39 39 rfl 5 Try.underlying39 hsz.out _ _ _ _ _ _ rfl rfl w1.heap.size 0 X 5 HX.out (bc (l.drop size)) ?n1 ?n2 ?n3 ?n4 w1.heap.size w1 hb12 (Nat.le_refl _) ?n7))
  case n1 => rw [bc_length]; simp
  case n2 => exact fun _ => HM2.out
  case n3 => rw [bc_length, HXL.out]; simp
  case n4 => exact bc_one_cell _
  intro w3 hx3 hb13
  have hx3' := hx3.out
  rw [splice_all X _ (by rw [bc_length, HXL.out]; simp)] at hx3'
  have HX3 := Lib.hid hx3'
  have ho3 := obj_below HW1.out hb13 hg1
  obtain ⟨hc0, hc1, hc2, hc3⟩ := obj4 ho3
  have hz2 := obj_free ho3 2
  have hz3 := obj_free ho3 3
  have HO3 := Lib.hid ho3
  clear hx3 hx3' ho3 HX hb12 hd2 HM2
  go_wp2
  refine bodyPost_ret (v := .tuple #[]) (by simp [results, Try.results17, go_sem]) rfl ?_
  obtain ⟨h1, h2⟩ := set_23 HO3.out (.slice (some ⟨w1.heap.size, 0, none⟩) (l.length - size) (l.length - size)) (.int .i64 0)
  have hm4 := mid_block_new (B := B) HX3.out (by have := hw2.size; omega) (by unfold maxLen; simp; omega)
  rw [show (l.drop size).length = l.length - size by simp] at hm4
  refine ⟨rfl, some w1.heap.size, ⟨0, .slice (some ⟨w1.heap.size, 0, none⟩) (l.length - size) (l.length - size), ?_, ?_, rfl, ?_, ?_, ?_, hmo, he⟩, .inr ⟨_, rfl, hw2.size⟩, ?_⟩
  · exact h1
  · exact mid_chg hm4 h2 (fun k hk => by simp [Value.ownBlock] at hk; omega)
  · intro h; simp at h; omega
  · simp
  · simp; omega
  · exact (hw2.below (hb13.mono hw2.size)).trans h2 (fun _ _ h => h)
set_option maxHeartbeats 800000 in
set_option maxRecDepth 100000 in
theorem drop_all (B g most : Nat) (l : List UInt8) (e : Nat) (gone : Nat) (b o : Nat) (w : World) (ho : w.heap[g]? = some (.cells #[.int .i64 most, .int .i64 e, .slice (some ⟨b, o, none⟩) l.length l.length, .int .i64 gone] 44 (0, 0)))
    (hm : Mid w B 5 (.slice (some ⟨b, o, none⟩) l.length l.length) l) (hbg : b ≠ g) (hB : B ≤ w.heap.size) (hgo : gone ≤ 1000000) (hle : l.length ≤ 1000000) (hmo : most ≤ 65536) (he : e ≤ 6) (hl0 : 0 < l.length) :
    Calls Try.prog 17 #[.pointer (some ⟨g, 0, none⟩), .int .i64 l.length] w (TurnPost (.tuple #[]) B g most ([], e) (some b) w) := by
  obtain ⟨i0, hi, hz0, hz1, hzz2⟩ := info_parts Try.info5
  obtain ⟨hc0, hc1, hc2, hc3⟩ := obj4 ho
  have hz2 := obj_free ho 2
  have hz3 := obj_free ho 3
  have HM := Lib.hid hm
  have HO := Lib.hid ho
  have HBG := Lib.hid hbg
  have HZ1 := Lib.hid hz1
  have HZ2 := Lib.hid hzz2
  have HI := Lib.hid hi
  have HZ0 := Lib.hid hz0
  clear hm ho hbg hi hz0 hz1 hzz2
  have hk' : (0 : Int) ≤ ((gone : Int) + (l.length : Int)) := by omega
  go_enter Try.func17, Try.ntmps17
  go_wp2
  go_quiet (fail)
  obtain ⟨h1, h2⟩ := set_23 HO.out (.slice (some ⟨b, o, none⟩) 0 0) (.int .i64 (gone + l.length))
  have h3 := mid_chg (mid_all HM.out) h2 (fun k hk => by simp [Value.ownBlock] at hk; subst hk; exact HBG.out)
  have hw1 : (((w.setCell ⟨g, 2, none⟩ (.slice (some ⟨b, o, none⟩) 0 0)).setCell ⟨g, 3, none⟩ (.int .i64 (gone + l.length))).drewN nq).heap[g]? = _ := h1
  have hw2 := h2.drewN nq
  have hw3 := mid_heap (w' := (((w.setCell ⟨g, 2, none⟩ (.slice (some ⟨b, o, none⟩) 0 0)).setCell ⟨g, 3, none⟩ (.int .i64 (gone + l.length))).drewN nq)) h3 rfl
  clear h1 h2 h3 hc0 hc1 hc2 hc3 hz2 hz3
  generalize (((w.setCell ⟨g, 2, none⟩ (.slice (some ⟨b, o, none⟩) 0 0)).setCell ⟨g, 3, none⟩ (.int .i64 (gone + l.length))).drewN nq) = w1 at hw1 hw2 hw3 ⊢
  obtain ⟨hc0, hc1, hc2, hc3⟩ := obj4 hw1
  have HW1 := Lib.hid hw1
  have HW3 := Lib.hid hw3
  clear hw1 hw3
  go_wp2_with (at_make; refine wpList_make_full _ rfl _ _ 39 rfl w1.heap.size 5 i0 (.int .u8 0) 1 Try.underlying39 HI.out HZ0.out HZ1.out _ _ _ _ 0 rfl rfl ?e1 ?e2 ?b0 ?b1 ?b2 ?_)
  case e1 => rfl
  case e2 => rfl
  case b0 => rw [HZ2.out]; omega
  case b1 => unfold maxLen; omega
  case b2 => exact Nat.le_refl _
  intro w2 hown hg2
  obtain ⟨X, hxl, hX⟩ := owned_block' hown
  have hb12 := below_of_grown hg2
  have hg1 : g < w1.heap.size := obj_lt HW1.out
  have hsz : Hid ((Try.prog.info? 5).map (·.size) = some 1) := by unfold Hid; rw [HI.out]; simp [HZ1.out]
  have hd2 := (hb12.cell (p := ⟨g, 2, none⟩) hg1).trans hc2
  have HM2 := Lib.hid (mid_cells (mid_chg (S := fun _ => False) HW3.out (Chg.ofBelow hb12) (fun _ _ h => h)))
  have HX := Lib.hid hX
  have HXL := Lib.hid hxl
  clear hown hg2 hX hc0 hc1 hc2 hc3 hxl
  go_wp2_with ((with_reducible refine wpList_copy_splice rfl (.tmp 38) (.tmp 42) 39 39 rfl 5 Try.underlying39 hsz.out _ _ _ _ _ _ rfl rfl w1.heap.size 0 X 5 HX.out (bc []) ?n1 ?n2 ?n3 ?n4 w1.heap.size w1 hb12 (Nat.le_refl _) ?n7))
  case n1 => rw [bc_length]; simp
  case n2 => exact fun _ => HM2.out
  case n3 => rw [bc_length, HXL.out]; simp
  case n4 => exact bc_one_cell _
  intro w3 hx3 hb13
  have hx3' := hx3.out
  rw [splice_all X _ (by rw [bc_length, HXL.out]; simp)] at hx3'
  have HX3 := Lib.hid hx3'
  have ho3 := obj_below HW1.out hb13 hg1
  obtain ⟨hc0, hc1, hc2, hc3⟩ := obj4 ho3
  have hz2 := obj_free ho3 2
  have hz3 := obj_free ho3 3
  have HO3 := Lib.hid ho3
  clear hx3 hx3' ho3 HX hb12 hd2 HM2
  go_wp2
  refine bodyPost_ret (v := .tuple #[]) (by simp [results, Try.results17, go_sem]) rfl ?_
  obtain ⟨h1, h2⟩ := set_23 HO3.out (.slice (some ⟨w1.heap.size, 0, none⟩) 0 0) (.int .i64 0)
  have hm4 := mid_block_new (B := B) HX3.out (by have := hw2.size; omega) (by unfold maxLen; simp)
  refine ⟨rfl, some w1.heap.size, ⟨0, .slice (some ⟨w1.heap.size, 0, none⟩) 0 0, ?_, ?_, rfl, ?_, ?_, ?_, hmo, he⟩, .inr ⟨_, rfl, hw2.size⟩, ?_⟩
  · exact h1
  · exact mid_chg hm4 h2 (fun k hk => by simp [Value.ownBlock] at hk; omega)
  · intro h; simp at h; omega
  · simp
  · simp
  · exact (hw2.below (hb13.mono hw2.size)).trans h2 (fun _ _ h => h)

/-- The first bytes of what is left are gone. -/
theorem drop_any (B g most size : Nat) (x : FS) (r : Option Nat) (w : World) (h : Fr w B g most x r) (hB : B ≤ w.heap.size) (h0 : 0 < size) (hs : size ≤ x.1.length) :
    Calls Try.prog 17 #[.pointer (some ⟨g, 0, none⟩), .int .i64 size] w (TurnPost (.tuple #[]) B g most (x.1.drop size, x.2) r w) := by
  obtain ⟨l, e⟩ := x
  obtain ⟨gone, v, ho, hm, rfl, hng, hgo, hle, hmo, he⟩ := h
  simp only at *
  obtain ⟨b, o, cap, rfl, hlc, hb⟩ := mid_form hm (by omega)
  have hbg : b ≠ g := fun h => hng (by rw [h]; rfl)
  by_cases hk : gone + size < l.length - size
  · exact drop_keep B g most size l e gone b o cap w ho hm hbg hle hmo he hs hlc hk
  · by_cases hc : cap = size
    · obtain rfl : size = l.length := by omega
      subst hc
      have := drop_all B g most l e gone b o w ho hm hbg hB (by omega) hle hmo he h0
      rwa [List.drop_length]
    · exact drop_copy B g most size l e gone b o cap w ho hm hbg hB (by omega) hle hmo he hs hlc hk hc
end Go.Proofs.Ytgihggaokamonaa
