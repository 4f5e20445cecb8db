/- The code's replace at numbers, at parts and at texts, as controls ask for it; its put. -/
import Derived.Test.YtlnfbjgadcifkaaDoorCtA
namespace Go.Proofs.YtlnfbjgadcifkaaDoor
set_option linter.unusedSimpArgs false
set_option linter.unusedVariables false
open Go Go.RowKit Go.Proofs.BerM Go.Proofs.BerK Go.Proofs.MemK Go.Proofs.NumM

theorem Tryd.ctinfo3 : (Tryd.prog.info? 3).map (fun i => (i.zero, i.size, i.bytes)) = some (some (.int .i64 0), 1, 8) := by kernel_rfl
theorem Tryd.ctinfo9 : (Tryd.prog.info? 9).map (fun i => (i.zero, i.size, i.bytes)) = some (some (.string ByteArray.empty), 1, 16) := by kernel_rfl

set_option maxHeartbeats 1600000 in
set_option maxRecDepth 100000 in
theorem rpl_int (g : Nat) (x y z : Nat) (w : World) (h0 : w.cell? ⟨g, 0, none⟩ = some (.int .i64 (x : Nat))) (h2 : w.cell? ⟨g, 2, none⟩ = some (.int .i64 (z : Nat))) :
    Calls Tryd.prog 49 #[.slice (some ⟨g, 0, none⟩) 3 3, .int .i64 1, .int .i64 2, .slice none 0 0] w fun en w' => ∃ v, en = .returned v ∧ IntAt w' v [x, z] ∧ Below w.heap.size w w' := by
  have H0 := Lib.hid (one_cell h0)
  have H2 := Lib.hid (one_cell h2)
  clear h0 h2
  go_enter Tryd.func49, Tryd.ntmps49
  go_wp2_with fail
  go_region_law (first
    | (refine step_none rfl (.tmp 14) (.tmp 15) 88 3 rfl 1 8 (.int .i64 0) Tryd.ctinfo3 Tryd.underlying88 (some ⟨g, 0, none⟩) 1 1 rfl (by omega) none 0 rfl ?_)
    | (refine step_grow rfl (.tmp 16) (.tmp 19) 88 3 rfl 1 8 (.int .i64 0) Tryd.ctinfo3 Tryd.underlying88 rfl (by decide) ⟨g, 0, none⟩ 1 1 [.int .i64 (x : Nat)] rfl rfl H0.out ⟨g, 2, none⟩ 1 1 [.int .i64 (z : Nat)] rfl rfl H2.out (by omega) (by unfold maxLen; omega) (by omega) ?_; intro v' w' h1 h2))
  obtain ⟨a, c, rfl⟩ := ownsRow_slice h1
  go_wp2
  go_ret
  exact ⟨_, rfl, intAt_owns (ts := [x, z]) h1, (Below.refl _ w).drew.trans h2⟩

set_option maxHeartbeats 1600000 in
set_option maxRecDepth 100000 in
theorem rpl_tlv (g : Nat) (x y z : TB) (w : World) (h : RowAt w (.slice (some ⟨g, 0, none⟩) 3 3) [x, y, z]) :
    Calls Tryd.prog 26 #[.slice (some ⟨g, 0, none⟩) 3 3, .int .i64 1, .int .i64 2, .slice none 0 0] w fun en w' => ∃ v, en = .returned v ∧ RowAt w' v [x, z] ∧ Below w.heap.size w w' := by
  have hc : ∀ i (hi : i < 3), w.cell? ⟨g, i * 2, none⟩ = some (.int .i64 (([x, y, z] : List TB)[i].1 : Int)) ∧ w.cell? ⟨g, i * 2 + 1, none⟩ = some (.string ⟨([x, y, z] : List TB)[i].2.toArray⟩) := by
    rcases h with ⟨h0, _⟩ | ⟨_, g', c', hv, _, hq⟩
    · simp at h0
    · injection hv with hv1 hv2 hv3
      injection hv1 with hv1
      injection hv1 with hv1
      subst hv1
      exact hq
  have H0 := Lib.hid (two_cells (hc 0 (by omega)).1 (hc 0 (by omega)).2)
  have H2 := Lib.hid (two_cells (hc 2 (by omega)).1 (hc 2 (by omega)).2)
  clear h hc
  obtain ⟨xt, xb⟩ := x
  obtain ⟨zt, zb⟩ := z
  go_enter Tryd.func26, Tryd.ntmps26
  go_wp2_with fail
  go_region_law (first
    | (refine step_none rfl (.tmp 14) (.tmp 15) 61 54 rfl 2 24 (.agg #[.int .i64 0, .string ByteArray.empty]) Tryd.info54 Tryd.underlying61 (some ⟨g, 0, none⟩) 1 1 rfl (by omega) none 0 rfl ?_)
    | (refine step_grow rfl (.tmp 16) (.tmp 19) 61 54 rfl 2 24 (.agg #[.int .i64 0, .string ByteArray.empty]) Tryd.info54 Tryd.underlying61 rfl (by decide) ⟨g, 0, none⟩ 1 1 [.int .i64 (xt : Int), .string ⟨xb.toArray⟩] rfl rfl H0.out ⟨g, 4, none⟩ 1 1 [.int .i64 (zt : Int), .string ⟨zb.toArray⟩] rfl rfl H2.out (by omega) (by unfold maxLen; omega) (by omega) ?_; intro v' w' h1 h2))
  obtain ⟨a, c, rfl⟩ := ownsRow_slice h1
  go_wp2
  go_ret
  exact ⟨_, rfl, rowAt_owns (L := [(xt, xb), (zt, zb)]) h1, (Below.refl _ w).drew.trans h2⟩

set_option maxHeartbeats 1600000 in
set_option maxRecDepth 100000 in
theorem rpl_str (g b c : Nat) (p q : List UInt8) (w : World) (h0 : w.cell? ⟨g, 0, none⟩ = some (.string ⟨p.toArray⟩)) (h1 : w.cell? ⟨g, 1, none⟩ = some (.string ⟨q.toArray⟩)) (hc : 2 ≤ c) (hcm : c ≤ maxLen) (hg : g < w.heap.size) (h2 : w.cell? ⟨b, 0, none⟩ = some (.string ⟨([] : List UInt8).toArray⟩)) :
    Calls Tryd.prog 50 #[.slice (some ⟨g, 0, none⟩) 2 c, .int .i64 1, .int .i64 1, .slice (some ⟨b, 0, none⟩) 1 1] w fun en w' => ∃ v, en = .returned v ∧ StrU w' v [p, [], q] ∧ Below w.heap.size w w' := by
  have H0 := Lib.hid (one_cell h0)
  have H1 := Lib.hid h1
  have H2 := Lib.hid (one_cell h2)
  have HG := Lib.hid hg
  unfold maxLen at hcm
  have hc1 : (1 : Int) ≤ (c : Int) := by omega
  have hc2 : (2 : Int) ≤ (c : Int) := by omega
  have hc3 : ¬ c = 1 := by omega
  clear h0 h1 h2 hg
  go_enter Tryd.func50, Tryd.ntmps50
  go_wp2_with fail
  go_region_law (first
    | (refine step_grow rfl (.tmp 14) (.tmp 15) 64 9 rfl 1 16 (.string ByteArray.empty) Tryd.ctinfo9 Tryd.underlying64 rfl (by decide) ⟨g, 0, none⟩ 1 1 [.string ⟨p.toArray⟩] rfl rfl H0.out ⟨b, 0, none⟩ 1 1 [.string ⟨([] : List UInt8).toArray⟩] rfl rfl H2.out (by omega) (by unfold maxLen; omega) (by omega) ?_; intro v1 w1 h1 h2)
    | (refine step_pushr rfl (.tmp 16) (.tmp 19) 64 9 rfl w.drew.heap.size 1 16 (.string ByteArray.empty) Tryd.ctinfo9 Tryd.underlying64 rfl (by decide) v1 2 _ rfl h1 (.slice (some ⟨g, 1, none⟩) 1 (c - 1)) 1 [.string ⟨q.toArray⟩] rfl (rd_one ((h2.cell (p := ⟨g, 1, none⟩) HG.out).trans H1.out)) (by omega) (by intro u hu; simp at hu; subst hu; rfl) (by unfold maxLen; omega) (by omega) h2.size ?_; intro v2 w2 h3 h4 h5))
  obtain ⟨a, c, rfl⟩ := ownsRow_slice h3
  have hb : Below w.heap.size w w2 := by
    refine (Below.refl _ w).drew.trans (h2.trans (h4.toBelow h2.size ?_))
    intro k hk he
    exact (h1.lt k he.symm).1
  go_wp2
  go_ret
  exact ⟨_, rfl, strU_owns (l := [p, [], q]) h3, hb⟩
end Go.Proofs.YtlnfbjgadcifkaaDoor
