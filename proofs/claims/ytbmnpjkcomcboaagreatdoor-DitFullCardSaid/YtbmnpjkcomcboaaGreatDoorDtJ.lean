/- An entry with lists of its own; the entry at a name. -/
import Derived.Test.YtbmnpjkcomcboaaGreatDoorDtAC
import Derived.Test.YtbmnpjkcomcboaaGreatDoorEnJN
import Derived.Test.YtbmnpjkcomcboaaGreatDoorEnHO
import Derived.Test.YtbmnpjkcomcboaaGreatDoorSnUW
namespace Go.Proofs.YtbmnpjkcomcboaaGreatDoor
set_option linter.unusedSimpArgs false
set_option linter.unusedVariables false
open Go Go.RowKit Go.Proofs.BerK Go.Proofs.MemK Go.Proofs.UtfK Go.Maps Go.WideMaps

def noQ : List UInt8 × Value := ([], .slice none 0 0)
theorem made_at (n : Nat) : madeCells #[Value.string ByteArray.empty, .slice none 0 0] (n * 2) = (atcs (List.replicate n noQ)).toArray := by
  apply Array.ext'
  unfold madeCells
  rw [Array.toList_map, Array.toList_range]
  show _ = atcs (List.replicate n noQ)
  induction n with
  | zero => rfl
  | succ n ih =>
    have e : ∀ r : List UInt8 × Value, ∀ R, atcs (R ++ [r]) = atcs R ++ [.string ⟨r.1.toArray⟩, r.2] := fun r R => by simp [atcs]
    rw [List.replicate_succ', e, ← ih, show (n + 1) * 2 = n * 2 + 1 + 1 by omega, List.range_succ, List.range_succ]
    simp only [List.map_append, List.map_cons, List.map_nil, List.append_assoc, List.cons_append, List.nil_append]
    congr 1
    have h0 : (n * 2) % 2 = 0 := by omega
    have h1 : (n * 2 + 1) % 2 = 1 := by omega
    show [(#[Value.string ByteArray.empty, .slice none 0 0] : Array Value)[(n * 2) % 2]!, (#[Value.string ByteArray.empty, .slice none 0 0] : Array Value)[(n * 2 + 1) % 2]!] = _
    rw [h0, h1]
    rfl
theorem made_attr (n : Nat) (W : World) (hn : n ≤ 1000000) : (Instr.makeSlice 37 (.int .i64 (n : Int)) (.int .i64 (n : Int))).run Tryz.prog W = .ok (.slice (some ⟨W.heap.size, 0, none⟩) n n) (W.alloc (.cells (atcs (List.replicate n noQ)).toArray 81)) := by
  obtain ⟨i0, hi, hz0, hz1, hz2⟩ := info_parts Tryz.sninfo81
  have h := run_make (P := Tryz.prog) W 37 81 i0 (.agg #[.string ByteArray.empty, .slice none 0 0]) Tryz.underlying37 hi hz0 .i64 .i64 (n : Int) (n : Int) (by omega) (by omega) (by rw [hz2]; omega) (by omega)
  have e : madeCells (Value.agg #[.string ByteArray.empty, .slice none 0 0]).cells ((n : Int).toNat * i0.size) = (atcs (List.replicate n noQ)).toArray := by
    rw [hz1, show (n : Int).toNat * 2 = n * 2 by omega]; exact made_at n
  rw [e] at h
  simpa using h
theorem atOk_snoc {w : World} {Lq : List (List UInt8 × Value)} {L : List Atr} {q : List UInt8 × Value} {a : Atr} (h : AtOk w Lq L) (h1 : q.1 = a.1) (h2 : ∃ B, w.ownsRow B 9 1 q.2 a.2.length (sc a.2)) : AtOk w (Lq ++ [q]) (L ++ [a]) := by
  obtain ⟨hl, hi⟩ := h
  refine ⟨by simp [hl], fun i i1 i2 => ?_⟩
  rw [List.getElem_append, List.getElem_append]
  by_cases hlt : i < Lq.length
  · rw [dif_pos hlt, dif_pos (by omega)]
    exact hi i hlt (by omega)
  · rw [dif_neg hlt, dif_neg (by omega)]
    simp at i1 i2
    have e1 : i - Lq.length = 0 := by omega
    have e2 : i - L.length = 0 := by omega
    simp only [e1, e2, List.getElem_cons_zero]
    exact ⟨h1, h2⟩
set_option maxHeartbeats 12800000 in
set_option maxRecDepth 100000 in
theorem dtown_any (A : List Atr) (dn : List UInt8) (av : Value) (w : World) (h : EaAt w av A) (hl : A.length ≤ 100000) (hv : ∀ a ∈ A, a.2.length ≤ 1000000) :
    Calls Tryz.prog 49 #[.agg #[.string ⟨dn.toArray⟩, av]] w (EnPost10 dn A w) := by
  obtain ⟨_, a, c, rfl, hcells⟩ := h
  have HM := Lib.hid hcells
  have HVl := Lib.hid hv
  obtain ⟨n, hn⟩ : ∃ n, A.length = n := ⟨_, rfl⟩
  have HL := Lib.hid hn
  rw [hn] at hl ⊢
  obtain ⟨W0, hW0⟩ : ∃ W, (w.alloc (.cells #[.string ⟨dn.toArray⟩, .slice a n c] 39)).alloc (.cells #[.string ⟨#[]⟩, .slice none 0 0] 39) = W := ⟨_, rfl⟩
  have z0 : W0.heap.size = w.heap.size + 1 + 1 := by rw [← hW0]; simp
  have hb0 : Below w.heap.size w W0 := by rw [← hW0]; exact ((Below.refl _ w).alloc (Nat.le_refl _) _).alloc (by simp) _
  obtain ⟨x1, x2⟩ : W0.heap[w.heap.size]? = some (.cells #[.string ⟨dn.toArray⟩, .slice a n c] 39 (0, 0)) ∧ W0.heap[w.heap.size + 1]? = some (.cells #[.string ⟨#[]⟩, .slice none 0 0] 39 (0, 0)) := by
    rw [← hW0]
    constructor
    · exact obj_alloc (heap_alloc_new w _) _
    · have := heap_alloc_new (w.alloc (.cells #[.string ⟨dn.toArray⟩, .slice a n c] 39)) (.cells #[.string ⟨#[]⟩, .slice none 0 0] 39)
      rw [World.size_alloc] at this
      exact this
  obtain ⟨M, hM⟩ : ∃ M, (atcs (List.replicate n noQ)).toArray = M := ⟨_, rfl⟩
  have hmk : ∀ W, (Instr.makeSlice 37 (.int .i64 (n : Int)) (.int .i64 (n : Int))).run Tryz.prog W = .ok (.slice (some ⟨W.heap.size, 0, none⟩) n n) (W.alloc (.cells M 81)) := by rw [← hM]; exact fun W => made_attr n W (by omega)
  obtain ⟨W1, hW1⟩ : ∃ W1, W0.alloc (.cells M 81) = W1 := ⟨_, rfl⟩
  have hb1 : Below W0.heap.size W0 W1 := by rw [← hW1]; exact (Below.refl _ W0).alloc (Nat.le_refl _) _
  have x3 : W1.heap[W0.heap.size]? = some (.cells M 81 (0, 0)) := by rw [← hW1]; exact heap_alloc_new W0 _
  have hown0 : W1.ownsRow w.heap.size 81 2 (.slice (some ⟨w.heap.size + 1 + 1, 0, none⟩) n n) n (atcs (List.replicate n noQ)) := by
    refine ⟨by rw [atcs_len]; simp, .inr ⟨w.heap.size + 1 + 1, n, M, rfl, by omega, by rw [← z0]; exact x3, Nat.le_refl _, by unfold maxLen; omega, ?_, ?_⟩⟩
    · rw [← hM, List.size_toArray, atcs_len]; simp
    · rw [← hM, List.take_of_length_le (by rw [List.toList_toArray, atcs_len]; simp)]
  obtain ⟨d0, d1⟩ := obj2s x1
  have HX := Lib.hid (And.intro (hb0.trans (hb1.mono hb0.size)) (And.intro (obj_below x1 hb1 (by omega)) (And.intro (obj_below x2 hb1 (by omega)) hown0)))
  have HW := Lib.hid (And.intro hW0 (And.intro hW1 z0))
  clear hcells hv hn hb0 x1 x2 hM hb1 x3 hown0 hW0 hW1
  go_enter Tryz.func49, Tryz.ntmps49
  go_wp2_with fail
  rw [HW.out.1]
  go_wp2
  rw [HW.out.2.1]
  clear d0 d1 hmk
  go_loopw [13] (fun v wr => ∃ (k : Nat) (R : List (List UInt8 × Value)), k ≤ n ∧ v = .int .i64 (k : Nat) ∧ R.length = n ∧ AtOk wr (R.take k) (A.take k) ∧ wr.ownsRow w.heap.size 81 2 (.slice (some ⟨w.heap.size + 1 + 1, 0, none⟩) n n) n (atcs R) ∧ wr.heap[w.heap.size]? = some (.cells #[.string ⟨dn.toArray⟩, .slice a n c] 39 (0, 0)) ∧ wr.heap[w.heap.size + 1]? = some (.cells #[.string ⟨#[]⟩, .slice none 0 0] 39 (0, 0)) ∧ Below w.heap.size w wr) (fun v _ => n - (intOf v).toNat)
  case atStart => exact ⟨0, List.replicate n noQ, by omega, rfl, by simp, atOk_nil _, HX.out.2.2.2, HX.out.2.1, HX.out.2.2.1, HX.out.1⟩
  case round =>
    obtain ⟨k, R, hk, rfl, hRl, hat, hown, hx1, hx2, hb⟩ := hrel
    by_cases hlt : k < n
    · have hkl : (k : Int) < (n : Int) := by omega
      have hkm : k < A.length := by rw [HL.out]; exact hlt
      obtain ⟨g1, o1, vl, rfl, hg1, e0w, e1w, htx, hsk⟩ := HM.out k hkm
      obtain ⟨va, vc, rfl, _⟩ := id htx
      have e0 := (hb.cell (p := ⟨g1, _, none⟩) hg1).trans e0w
      have e1 := (hb.cell (p := ⟨g1, _, none⟩) hg1).trans e1w
      have hbd := HVl.out _ (List.getElem_mem hkm)
      have hmr : w.heap.size + 1 + 1 < wr.heap.size := (hown.lt _ rfl).2
      obtain ⟨nm, hnm⟩ : ∃ x, A[k].1 = x := ⟨_, rfl⟩
      obtain ⟨nl, hnl⟩ : ∃ x, A[k].2.length = x := ⟨_, rfl⟩
      rw [hnm] at e0
      obtain ⟨W5, hW5⟩ : ∃ W5, wr.alloc (.cells #[.string ⟨nm.toArray⟩, .slice va nl vc] 81) = W5 := ⟨_, rfl⟩
      have hb5 : Below wr.heap.size wr W5 := by rw [← hW5]; exact (Below.refl _ wr).alloc (Nat.le_refl _) _
      have y5 : W5.heap[wr.heap.size]? = some (.cells #[.string ⟨nm.toArray⟩, .slice va nl vc] 81 (0, 0)) := by rw [← hW5]; exact heap_alloc_new wr _
      obtain ⟨f0, f1⟩ := obj2s y5
      have zx := obj_lt y5
      have hxm : w.heap.size + 1 + 1 ≠ wr.heap.size := by omega
      have htx5 : TxR W5 (.slice va A[k].2.length vc) A[k].2 := txR_below htx (hb.trans (hb5.mono hb.size))
      have HCl := Lib.hid (fun w' (hbw : Below W5.heap.size W5 w') => snclone_any A[k].2 (.slice va A[k].2.length vc) w' (txR_below htx5 hbw) hsk hbd)
      have hkR : k < R.length := by rw [hRl]; exact hlt
      obtain ⟨r0, r1⟩ := atcs_at R k hkR
      have hn2 : k * 2 + 1 < n * 2 := by omega
      have H5 := Lib.hid (And.intro hat (And.intro hb (And.intro (ownsRow_below hown hb5) (And.intro hb5 (And.intro hx1 (And.intro hx2 (And.intro hRl (And.intro hnm hnl))))))))
      have HW5 := Lib.hid hW5
      rw [hnl] at HCl e1
      obtain ⟨bx, hbx⟩ : ∃ bx, wr.heap.size = bx := ⟨_, rfl⟩
      have HBX := Lib.hid hbx
      clear hat hb hown hx1 hx2 hb5 y5 e0w e1w htx htx5 hsk hnm hnl hW5
      go_wp2_with fail
      rw [HW5.out]
      rw [hbx] at f0 f1 zx hxm
      clear hbx e0 e1
      refine wp_region_noPanic ?_
      refine wp_region_held_drew (S := fun w' => w'.cell? ⟨bx, 0, none⟩ = some (.string ⟨nm.toArray⟩) ∧ w'.cell? ⟨bx, 1, none⟩ = some (.slice va nl vc)) (by kernel_rfl) ?_ (fun hHeld => ?_)
      · exact ⟨f0, f1⟩
      refine wpAnyH_take (i := 0) (v := ?vj0) rfl (by kernel_rfl) (by kernel_rfl) (by kernel_rfl) (fun _ _ _ h => h) (Or.inl ⟨by rfl, ?yj0⟩) (by assumption) ?rj0
      case yj0 => (intro w' hSw; (try dsimp only at hSw); go_simp; with_reducible rfl)
      try simp only [List.getElem_toArray, List.getElem_cons_zero, List.getElem_cons_succ, Act.put, List.setIfInBounds_toArray, List.set_cons_zero, List.set_cons_succ]
      refine wpAnyH_take (i := 1) (v := ?vj1) rfl (by kernel_rfl) (by kernel_rfl) (by kernel_rfl) (fun _ _ _ h => h) (Or.inl ⟨by rfl, ?yj1⟩) (by assumption) ?rj1
      case yj1 => (intro w' hSw; (try dsimp only at hSw); go_simp; with_reducible rfl)
      try simp only [List.getElem_toArray, List.getElem_cons_zero, List.getElem_cons_succ, Act.put, List.setIfInBounds_toArray, List.set_cons_zero, List.set_cons_succ]
      refine wpAnyH_take (i := 2) (v := ?vj2) rfl (by kernel_rfl) (by kernel_rfl) (by kernel_rfl) (fun _ _ _ h => h) (Or.inl ⟨by rfl, ?yj2⟩) (by assumption) ?rj2
      case yj2 => (intro w' hSw; (try dsimp only at hSw); go_simp; with_reducible rfl)
      try simp only [List.getElem_toArray, List.getElem_cons_zero, List.getElem_cons_succ, Act.put, List.setIfInBounds_toArray, List.set_cons_zero, List.set_cons_succ]
      refine wpAnyH_take (i := 3) (v := ?vj3) rfl (by kernel_rfl) (by kernel_rfl) (by kernel_rfl) (fun _ _ _ h => h) (Or.inl ⟨by rfl, ?yj3⟩) (by assumption) ?rj3
      case yj3 => (intro w' hSw; (try dsimp only at hSw); go_simp; with_reducible rfl)
      try simp only [List.getElem_toArray, List.getElem_cons_zero, List.getElem_cons_succ, Act.put, List.setIfInBounds_toArray, List.set_cons_zero, List.set_cons_succ]
      refine wpAnyH_take (i := 4) (v := ?vj4) rfl (by kernel_rfl) (by kernel_rfl) (by kernel_rfl) (fun _ _ _ h => h) (Or.inl ⟨by rfl, ?yj4⟩) (by assumption) ?rj4
      case yj4 => (intro w' hSw; (try dsimp only at hSw); go_simp; with_reducible rfl)
      try simp only [List.getElem_toArray, List.getElem_cons_zero, List.getElem_cons_succ, Act.put, List.setIfInBounds_toArray, List.set_cons_zero, List.set_cons_succ]
      refine wpAnyH_take (i := 5) (v := ?vj5) rfl (by kernel_rfl) (by kernel_rfl) (by kernel_rfl) (fun _ _ _ h => h) (Or.inl ⟨by rfl, ?yj5⟩) (by assumption) ?rj5
      case yj5 => (intro w' hSw; (try dsimp only at hSw); go_simp; with_reducible rfl)
      try simp only [List.getElem_toArray, List.getElem_cons_zero, List.getElem_cons_succ, Act.put, List.setIfInBounds_toArray, List.set_cons_zero, List.set_cons_succ]
      refine wpAnyH_ready (rs := [6]) (by kernel_rfl) (by simp) ?_
      refine AllReadyH.cons (o := _) rfl (fun KR hKR => ?cj6) ?nj6
      case nj6 => exact AllReadyH.nil
      go_simp
      go_at_call 73
      with_reducible refine (HCl.out _ (by first | exact (Below.refl _ _).drew | exact Below.refl _ _)).mono ?_
      rintro en w6 ⟨ca, cc, rfl, hr6, hb6⟩
      have hb6 : Below W5.heap.size W5 w6 := (by first | exact (Below.refl _ W5).drew.trans hb6 | exact hb6)
      have i0 := (hb6.cell (p := ⟨bx, 0, none⟩) zx).trans f0
      have i1 := (hb6.cell (p := ⟨bx, 1, none⟩) zx).trans f1
      have ho6 := ownsRow_below H5.out.2.2.1 hb6
      have s0 := (ho6.cellAt (k * 2) (by omega)).trans r0
      have s1 := (ho6.cellAt (k * 2 + 1) (by omega)).trans r1
      have t0 := ho6.frozenAt (k * 2)
      have t1 := ho6.frozenAt (k * 2 + 1)
      obtain ⟨cl, hcl⟩ : ∃ x, A[k].2.length = x := ⟨_, rfl⟩
      rw [hcl] at hr6 ⊢
      have HCL := Lib.hid hcl
      have H6 := Lib.hid (And.intro hr6 (And.intro hb6 ho6))
      clear hr6 hb6 ho6 hcl
      go_wp2_with fail
      refine hKR.out _ _ ?_ (fun hHeld => ?_)
      · exact ⟨i0, i1⟩
      clear hKR KR
      try simp only [List.getElem_toArray, List.getElem_cons_zero, List.getElem_cons_succ, Act.put, List.setIfInBounds_toArray, List.set_cons_zero, List.set_cons_succ]
      refine wpAnyH_take (i := 7) (v := ?vj7) rfl (by kernel_rfl) (by kernel_rfl) (by kernel_rfl) (fun _ _ _ h => h) (Or.inl ⟨by rfl, ?yj7⟩) (by assumption) ?rj7
      case yj7 => (intro w' hSw; (try dsimp only at hSw); go_simp; with_reducible rfl)
      try simp only [List.getElem_toArray, List.getElem_cons_zero, List.getElem_cons_succ, Act.put, List.setIfInBounds_toArray, List.set_cons_zero, List.set_cons_succ]
      refine wpAnyH_take (i := 8) (v := ?vj8) rfl (by kernel_rfl) (by kernel_rfl) (by kernel_rfl) (fun _ _ _ h => h) (Or.inl ⟨by rfl, ?yj8⟩) (by assumption) ?rj8
      case yj8 => (intro w' hSw; (try dsimp only at hSw); go_simp; with_reducible rfl)
      try simp only [List.getElem_toArray, List.getElem_cons_zero, List.getElem_cons_succ, Act.put, List.setIfInBounds_toArray, List.set_cons_zero, List.set_cons_succ]
      refine wpAnyH_ready (rs := [9]) (by kernel_rfl) (by simp) ?_
      refine AllReadyH.cons (o := _) rfl (fun KR hKR => ?cj9) ?nj9
      case nj9 => exact AllReadyH.nil
      go_simp
      refine hKR.out _ _ ?_ (fun hHeld => ?_)
      · exact ⟨(World.cell?_setCell_far _ _ _ _ hxm).trans ((World.cell?_setCell_far _ _ _ _ hxm).trans i0), (World.cell?_setCell_far _ _ _ _ hxm).trans ((World.cell?_setCell_far _ _ _ _ hxm).trans i1)⟩
      clear hKR KR
      try simp only [List.getElem_toArray, List.getElem_cons_zero, List.getElem_cons_succ, Act.put, List.setIfInBounds_toArray, List.set_cons_zero, List.set_cons_succ]
      refine wpAnyH_done (by kernel_rfl) ?_ _
      refine NoPanic.normal ?_
      go_wp2
      refine ⟨⟨k + 1, R.set k (nm, .slice ca cl cc), by omega, by go_num, by rw [List.length_set]; exact hRl, ?_, ?_, ?_, ?_, ?_⟩, by simp [intOf]; omega⟩
      all_goals
        have hc : Chg (fun k' => some k' = (Value.slice (some ⟨w.heap.size + 1 + 1, 0, none⟩) n n).ownBlock) w6 ((w6.setCell ⟨w.heap.size + 1 + 1, k * 2, none⟩ (.string ⟨nm.toArray⟩)).setCell ⟨w.heap.size + 1 + 1, k * 2 + 1, none⟩ (.slice ca cl cc)) := ((Chg.refl (fun k' => some k' = (Value.slice (some ⟨w.heap.size + 1 + 1, 0, none⟩) n n).ownBlock) w6).setCell (p := ⟨w.heap.size + 1 + 1, k * 2, none⟩) (fun _ => rfl) _).setCell (p := ⟨w.heap.size + 1 + 1, k * 2 + 1, none⟩) (fun _ => rfl) _
        have hb56 := H5.out.2.2.2.1.trans (H6.out.2.1.mono H5.out.2.2.2.1.size)
        have hb06 := H5.out.2.1.trans (hb56.mono H5.out.2.1.size)
      · rw [take_set' R k hkR, List.take_succ_eq_append_getElem hkm]
        refine atOk_snoc (atOk_chg (atOk_below H5.out.1 hb56) H6.out.2.2 hc) H5.out.2.2.2.2.2.2.2.1.symm ⟨W5.drew.heap.size, ?_⟩
        have hq : ((w6.setCell ⟨w.heap.size + 1 + 1, k * 2, none⟩ (.string ⟨nm.toArray⟩)).setCell ⟨w.heap.size + 1 + 1, k * 2 + 1, none⟩ (.slice ca cl cc)).ownsRow W5.drew.heap.size 9 1 (.slice ca cl cc) A[k].2.length (sc A[k].2) := by
          rw [HCL.out]
          exact ownsRow_chg H6.out.1 hc (fun k' hk' e => row_apart H6.out.2.2 H6.out.1 (by decide) k' e.symm hk')
        exact hq
      · have hst := own_stored (own_stored H6.out.2.2 (k * 2) (.string ⟨nm.toArray⟩)) (k * 2 + 1) (.slice ca cl cc)
        rw [show (Value.slice ca cl cc) = (nm, Value.slice ca cl cc).2 from rfl, show (Value.string ⟨nm.toArray⟩) = .string ⟨(nm, Value.slice ca cl cc).1.toArray⟩ from rfl, atcs_set2 R k hkR] at hst
        exact hst
      · exact obj_chg (obj_below H5.out.2.2.2.2.1 hb56 (obj_lt H5.out.2.2.2.2.1)) hc (fun e => by simp [Value.ownBlock] at e <;> omega)
      · exact obj_chg (obj_below H5.out.2.2.2.2.2.1 hb56 (obj_lt H5.out.2.2.2.2.2.1)) hc (fun e => by simp [Value.ownBlock] at e <;> omega)
      · exact hb06.trans (hc.toBelow hb06.size (fun k' _ e => by simp [Value.ownBlock] at e; omega))
    · obtain rfl : k = n := by omega
      have hRk : R.take k = R := by rw [← hRl, List.take_length]
      have hAk : A.take k = A := by rw [← HL.out, List.take_length]
      rw [hRk, hAk] at hat
      have hmr : w.heap.size + 1 + 1 < wr.heap.size := (hown.lt _ rfl).2
      obtain ⟨d0, d1⟩ := obj2s hx1
      obtain ⟨q0, q1⟩ := obj2s hx2
      have u0 := obj_free hx2 0
      have u1 := obj_free hx2 1
      have H := Lib.hid (And.intro hat (And.intro hown (And.intro hx2 hb)))
      clear hat hown hx1 hx2 hb hRk hAk
      go_wp2
      have hc : Chg (fun k' => k' = w.heap.size + 1) wr ((wr.setCell ⟨w.heap.size + 1, 0, none⟩ (.string ⟨dn.toArray⟩)).setCell ⟨w.heap.size + 1, 1, none⟩ (.slice (some ⟨w.heap.size + 1 + 1, 0, none⟩) k k)) := ((Chg.refl (fun k' => k' = w.heap.size + 1) wr).setCell (p := ⟨w.heap.size + 1, 0, none⟩) (fun _ => rfl) _).setCell (p := ⟨w.heap.size + 1, 1, none⟩) (fun _ => rfl) _
      have hx9 := set2_e H.out.2.2.1 (.string ⟨dn.toArray⟩) (.slice (some ⟨w.heap.size + 1 + 1, 0, none⟩) k k)
      obtain ⟨c0, c1⟩ := obj2s hx9
      refine bodyPost_ret (v := .agg #[.string ⟨dn.toArray⟩, .slice (some ⟨w.heap.size + 1 + 1, 0, none⟩) k k]) (by simp [results, Tryz.results49, go_sem, c0, c1]) rfl ?_
      refine ⟨_, rfl, ⟨R, w.heap.size, ⟨H.out.1.1, fun i i1 i2 => ?_⟩, ?_⟩, H.out.2.2.2.trans (hc.toBelow H.out.2.2.2.size (fun k' _ e => by have e : k' = w.heap.size + 1 := e; omega))⟩
      · obtain ⟨e, BB', hB⟩ := H.out.1.2 i i1 i2
        refine ⟨e, BB', ownsRow_chg hB hc (fun k' hk' e' => ?_)⟩
        have e' : k' = w.heap.size + 1 := e'
        subst e'
        rcases hB.2 with ⟨e2, _⟩ | ⟨g', cap, cur, e2, _, hg', _⟩
        · rw [e2] at hk'; simp [Value.ownBlock] at hk'
        · rw [e2] at hk'
          simp [Value.ownBlock] at hk'
          rw [hk', H.out.2.2.1] at hg'
          injection hg' with hg'
          injection hg' with _ h5 _
          exact absurd h5 (by decide)
      · rw [HL.out]
        exact ownsRow_chg H.out.2.1 hc (fun k' hk' e' => by
          have e' : k' = w.heap.size + 1 := e'
          simp [Value.ownBlock] at hk'
          omega)
def GetPost (o : Option Ent) (w : World) (en : Ending) (w' : World) : Prop := (o = none → en = .returned (.tuple #[.agg #[.string ⟨#[]⟩, .slice none 0 0], .bool false])) ∧ (∀ e, o = some e → ∃ v, en = .returned (.tuple #[.agg #[.string ⟨e.1.toArray⟩, v], .bool true]) ∧ PaAt w' v e.2) ∧ Below w.heap.size w w'
set_option maxHeartbeats 3200000 in
theorem dtget_nil (s : ByteArray) (w : World) : Calls Tryz.prog 24 #[.pointer none, .string s] w (GetPost none w) := by
  have hx0 := heap_alloc_new w (.cells #[.string ⟨#[]⟩, .slice none 0 0] 39)
  obtain ⟨W, hW⟩ : ∃ W, w.alloc (.cells #[.string ⟨#[]⟩, .slice none 0 0] 39) = W := ⟨_, rfl⟩
  rw [hW] at hx0
  have hb : Below w.heap.size w W := by rw [← hW]; exact (Below.refl _ w).alloc (Nat.le_refl _) _
  obtain ⟨q0, q1⟩ := obj2s hx0
  have u0 := obj_free hx0 0
  have u1 := obj_free hx0 1
  have HW := Lib.hid (And.intro hW (And.intro hx0 hb))
  clear hW hx0 hb
  go_enter Tryz.func24, Tryz.ntmps24
  go_wp2_with fail
  rw [HW.out.1]
  go_wp2
  refine bodyPost_ret (v := .tuple #[.agg #[.string ⟨#[]⟩, .slice none 0 0], .bool false]) (by simp [results, Tryz.results24, go_sem, q0, q1]) rfl ?_
  exact ⟨fun _ => rfl, (fun e h => by cases h), HW.out.2.2⟩
set_option maxHeartbeats 6400000 in
set_option maxRecDepth 100000 in
theorem dtget_any (B g : Nat) (sv : Value) (S : Nat → Prop) (L : List Ent) (s : List UInt8) (w : World) (h : TrAt w B g sv S L) (hs : s.length ≤ 140737488355328) (hsz : ∀ e ∈ L, e.2.length ≤ 100000 ∧ ∀ a ∈ e.2, a.2.length ≤ 1000000) :
    Calls Tryz.prog 24 #[.pointer (some ⟨g, 0, none⟩), .string ⟨s.toArray⟩] w (GetPost (lkE L s) w) := by
  obtain ⟨eb, bb, fe, F, nb, rfl, hg, _, h1, h2, _⟩ := h
  have hx0 := heap_alloc_new w (.cells #[.string ⟨#[]⟩, .slice none 0 0] 39)
  obtain ⟨W, hW⟩ : ∃ W, w.alloc (.cells #[.string ⟨#[]⟩, .slice none 0 0] 39) = W := ⟨_, rfl⟩
  rw [hW] at hx0
  have hb : Below w.heap.size w W := by rw [← hW]; exact (Below.refl _ w).alloc (Nat.le_refl _) _
  have hgW := obj_below hg hb (obj_lt hg)
  obtain ⟨c0, c1, c2⟩ := obj3 hgW
  have h1W := mvAt_block h1 (hb.block eb (mvAt_lt h1))
  have hrun := mv_look h1W Tryz.underlying66 (dtzE W) s hs
  obtain ⟨q0, q1⟩ := obj2s hx0
  have u0 := obj_free hx0 0
  have u1 := obj_free hx0 1
  have hsW : w.heap.size + 1 = W.heap.size := by rw [← hW]; simp
  have HW := Lib.hid (And.intro hW (And.intro hx0 (And.intro hb hsW)))
  cases hl : lkE L s with
  | none =>
    rw [(h2 s).1 hl] at hrun
    have hrun : (Instr.lookup 66 (.map (some eb)) (.string ⟨s.toArray⟩) true).run Tryz.prog W = .ok (.tuple #[.agg #[.string ⟨#[]⟩, .slice none 0 0], .bool false]) W := hrun
    have hxA := obj_alloc hx0 (.cells #[.string ⟨#[]⟩, .slice none 0 0] 39)
    have p0 := fun ob => (obj2s (obj_alloc hx0 ob)).1
    have p1 := fun ob => (obj2s (obj_alloc hx0 ob)).2
    have v0 := fun ob => obj_free (obj_alloc hx0 ob) 0
    have v1 := fun ob => obj_free (obj_alloc hx0 ob) 1
    have HxA := Lib.hid hxA
    rw [← hW] at c1 hrun
    simp only [← hW] at p0 p1 v0 v1
    clear h1 h2 hg hgW h1W hl hx0 hb hW hsz hs hxA c0 c2 hsW q0 q1 u0 u1
    go_enter Tryz.func24, Tryz.ntmps24
    go_wp2
    rw [HW.out.1]
    obtain ⟨c0, c1⟩ := obj2s HxA.out
    refine bodyPost_ret (v := .tuple #[.agg #[.string ⟨#[]⟩, .slice none 0 0], .bool false]) (by simp [results, Tryz.results24, go_sem, c0, c1]) rfl ?_
    exact ⟨fun _ => rfl, (fun e h => by cases h), HW.out.2.2.1.alloc HW.out.2.2.1.size _⟩
  | some e =>
    obtain ⟨v, hv1, hv2⟩ := (h2 s).2 e hl
    obtain ⟨va, vc, hvv⟩ := paAt_slice hv2
    subst hvv
    rw [hv1] at hrun
    obtain ⟨d, A⟩ := e
    have hrun : (Instr.lookup 66 (.map (some eb)) (.string ⟨s.toArray⟩) true).run Tryz.prog W = .ok (.tuple #[.agg #[.string ⟨d.toArray⟩, .slice va A.length vc], .bool true]) W := hrun
    have hszA := hsz _ (lkE_some hl).1
    have HO := Lib.hid (fun w' (hb' : Below W.heap.size W w') => dtown_any A d (.slice va A.length vc) w' (paAt_ea (paAt_below (paAt_below hv2 hb) hb')) hszA.1 (fun a ha => hszA.2 a ha))
    obtain ⟨n, hn⟩ : ∃ n, A.length = n := ⟨_, rfl⟩
    rw [hn] at HO hrun
    obtain ⟨W2, hW2⟩ : ∃ W2, W.alloc (.cells #[.string ⟨d.toArray⟩, .slice va n vc] 39) = W2 := ⟨_, rfl⟩
    have hb2 : Below W.heap.size W W2 := by rw [← hW2]; exact (Below.refl _ W).alloc (Nat.le_refl _) _
    have hx2 : W2.heap[W.heap.size]? = some (.cells #[.string ⟨d.toArray⟩, .slice va n vc] 39 (0, 0)) := by rw [← hW2]; exact heap_alloc_new W _
    obtain ⟨e0, e1⟩ := obj2s hx2
    have HX := Lib.hid (And.intro hW2 (And.intro hb2 (obj_below hx0 hb2 (obj_lt hx0))))
    rw [← hW2, ← hW] at e0 e1
    rw [← hW] at c1 hrun
    clear h1 h2 hg hgW h1W hl hx0 hb hW hsz hs c0 c2 hv1 hv2 hszA hn hW2 hb2 hx2 q0 q1 u0 u1
    rw [World.size_alloc] at e0 e1
    clear hsW
    go_enter Tryz.func24, Tryz.ntmps24
    go_wp2_with fail
    rw [HW.out.1, HX.out.1]
    refine (HO.out _ HX.out.2.1).mono ?_
    rintro en w4 ⟨v, rfl, hpa, hb4⟩
    obtain ⟨na, nc, rfl⟩ := paAt_slice hpa
    have hx4 := obj_below HX.out.2.2 hb4 (obj_lt HX.out.2.2)
    obtain ⟨q0, q1⟩ := obj2s hx4
    have u0 := obj_free hx4 0
    have u1 := obj_free hx4 1
    have H4 := Lib.hid (And.intro hpa (And.intro hb4 hx4))
    clear hpa hb4 hx4 e0 e1
    go_wp2
    have hc : Chg (fun k' => k' = w.heap.size) w4 ((w4.setCell ⟨w.heap.size, 0, none⟩ (.string ⟨d.toArray⟩)).setCell ⟨w.heap.size, 1, none⟩ (.slice na A.length nc)) := ((Chg.refl (fun k' => k' = w.heap.size) w4).setCell (p := ⟨w.heap.size, 0, none⟩) (fun _ => rfl) _).setCell (p := ⟨w.heap.size, 1, none⟩) (fun _ => rfl) _
    have hx9 := set2_e H4.out.2.2 (.string ⟨d.toArray⟩) (.slice na A.length nc)
    obtain ⟨c0, c1⟩ := obj2s hx9
    have hbw := HW.out.2.2.1.trans ((HX.out.2.1.trans (H4.out.2.1.mono HX.out.2.1.size)).mono HW.out.2.2.1.size)
    refine bodyPost_ret (v := .tuple #[.agg #[.string ⟨d.toArray⟩, .slice na A.length nc], .bool true]) (by simp [results, Tryz.results24, go_sem, c0, c1]) rfl ?_
    refine ⟨(fun h => by cases h), fun e he => ?_, hbw.trans (hc.toBelow hbw.size (fun k' _ e => by have e : k' = w.heap.size := e; omega))⟩
    injection he with he
    subst he
    refine ⟨_, rfl, ?_⟩
    obtain ⟨Lq, BB', ⟨hq1, hq2⟩, hq3⟩ := H4.out.1
    have hno : ∀ {e size n B xs} {v : Value}, e ≠ 39 → w4.ownsRow B e size v n xs → ∀ k, v.ownBlock = some k → ¬ k = w.heap.size := by
      intro e size n B xs v hne hB k hk e'
      subst e'
      rcases hB.2 with ⟨e2, _⟩ | ⟨g', cap, cur, e2, _, hg', _⟩
      · rw [e2] at hk; simp [Value.ownBlock] at hk
      · rw [e2] at hk
        simp [Value.ownBlock] at hk
        rw [hk, H4.out.2.2] at hg'
        injection hg' with hg'
        injection hg' with _ h5 _
        exact absurd h5.symm hne
    refine ⟨Lq, BB', ⟨hq1, fun i i1 i2 => ?_⟩, ownsRow_chg hq3 hc (hno (by decide) hq3)⟩
    obtain ⟨e, B2, hB⟩ := hq2 i i1 i2
    exact ⟨e, B2, ownsRow_chg hB hc (hno (by decide) hB)⟩
end Go.Proofs.YtbmnpjkcomcboaaGreatDoor
