/- The names below one, as the code walks them. The names below one: Below, Names. A row of those right below a name copied; a map of entries copied. A tree copied. -/
import Derived.Test.YtbmnpjkcomcboaaGreatDoorDtLR
import Derived.Test.YtbmnpjkcomcboaaGreatDoorEnFI
import Derived.Test.YtbmnpjkcomcboaaGreatDoorSnUW
import Derived.Test.YtbmnpjkcomcboaaGreatDoorDtAC
import Derived.Test.YtbmnpjkcomcboaaGreatDoorDtDI
import Derived.Test.YtbmnpjkcomcboaaGreatDoorSnAL
import Derived.Lib.SlMapMerge
namespace Go.Proofs.YtbmnpjkcomcboaaGreatDoor
set_option linter.unusedSimpArgs false
set_option linter.unusedVariables false
open Go Go.RowKit Go.Proofs.BerK Go.Proofs.MemK Go.Proofs.UtfK Go.Maps Go.WideMaps

theorem cell_chg {S : Nat → Prop} {w w' : World} (h : Chg S w w') {p : Addr} (hg : p.block < w.heap.size) (hS : ¬ S p.block) : w'.cell? p = w.cell? p := by
  unfold World.cell?
  rw [h.block p.block hg hS]
def WkPost (xs : List (List UInt8)) (v : Value) (w0 w : World) (en : Ending) (w' : World) : Prop :=
  ∃ nv, en = .returned nv ∧ w'.ownsRow w0.heap.size 9 1 nv xs.length (sc xs) ∧ Below w0.heap.size w0 w' ∧ Chg (fun k => some k = v.ownBlock) w w' ∧ (nv.ownBlock = v.ownBlock ∨ ∃ k, nv.ownBlock = some k ∧ w.heap.size ≤ k)
def wkT (out : List (List UInt8)) (W : List UInt8 → List (List UInt8)) (K : List Av) (i : Nat) : List (List UInt8) := out ++ (K.take i).flatMap fun c => c.2 :: W c.2
theorem wkT_zero (out : List (List UInt8)) (W : List UInt8 → List (List UInt8)) (K : List Av) : wkT out W K 0 = out := by unfold wkT; simp
theorem wkT_all (out : List (List UInt8)) (W : List UInt8 → List (List UInt8)) (K : List Av) : wkT out W K K.length = out ++ K.flatMap fun c => c.2 :: W c.2 := by unfold wkT; rw [List.take_length]
theorem wkT_next (out : List (List UInt8)) (W : List UInt8 → List (List UInt8)) (K : List Av) (i : Nat) (h : i < K.length) : wkT out W K (i + 1) = wkT out W K i ++ [K[i].2] ++ W K[i].2 := by
  unfold wkT
  rw [List.take_succ_eq_append_getElem h, List.flatMap_append]
  simp
theorem wkT_le (out : List (List UInt8)) (W : List UInt8 → List (List UInt8)) (K : List Av) (i : Nat) : (wkT out W K i).length ≤ (out ++ K.flatMap fun c => c.2 :: W c.2).length := by
  unfold wkT
  conv => rhs; rw [← List.take_append_drop i K]
  rw [List.flatMap_append]
  simp
set_option maxHeartbeats 6400000 in
set_option maxRecDepth 100000 in
theorem walk_step (B g : Nat) (sv : Value) (S : Nat → Prop) (L : List Ent) (w0 : World) (h : TrAt w0 B g sv S L) (p : List UInt8) (hp : p.length ≤ 140737488355328) (W : List UInt8 → List (List UInt8)) (K : List Av) (hKe : kidN L p = K) (out : List (List UInt8)) (v : Value) (w : World)
    (hb : Below w0.heap.size w0 w) (hv : w.ownsRow w0.heap.size 9 1 v out.length (sc out)) (hlen : out.length + (K.flatMap fun c => c.2 :: W c.2).length ≤ 100000) (hKl : K.length ≤ 1000000)
    (hrec : ∀ i (hi : i < K.length) o v w', Below w0.heap.size w0 w' → w'.ownsRow w0.heap.size 9 1 v o.length (sc o) → o.length + (W K[i].2).length ≤ 100000 → Calls Tryz.prog 39 #[.pointer (some ⟨g, 0, none⟩), .string ⟨K[i].2.toArray⟩, v] w' (WkPost (o ++ W K[i].2) v w0 w')) :
    Calls Tryz.prog 39 #[.pointer (some ⟨g, 0, none⟩), .string ⟨p.toArray⟩, v] w (WkPost (out ++ K.flatMap fun c => c.2 :: W c.2) v w0 w) := by
  obtain ⟨eb, bb, fe, F, nb, hS, hg, _, _, _, h3, h4⟩ := h
  have zg := obj_lt hg
  obtain ⟨c0, c1, c2⟩ := obj3 (obj_below hg hb zg)
  have hrow := (h4 p).2.1
  have hF0 := (h4 p).1
  rw [hKe] at hrow hF0
  obtain ⟨va, vc, hva⟩ := ownsRow_slice hrow
  rw [hva] at hrow
  have HCe := Lib.hid (show ∀ wr, Below w0.heap.size w0 wr → ∀ i (hi : i < K.length), ∃ g, va = some ⟨g, 0, none⟩ ∧ wr.cell? ⟨g, i * 2, none⟩ = some (.string ⟨K[i].1.toArray⟩) ∧ wr.cell? ⟨g, i * 2 + 1, none⟩ = some (.string ⟨K[i].2.toArray⟩) by
    intro wr hb i hi
    rcases hrow.2 with ⟨e, h0⟩ | ⟨g, cap, cur, e, _, hg, _⟩
    · omega
    · injection e with e1 e2 e3
      subst e1
      obtain ⟨h1, h2⟩ := avc_at K i hi
      have hgl := obj_lt hg
      exact ⟨g, rfl, (hb.cell (p := ⟨g, i * 2, none⟩) hgl).trans ((hrow.cellAt _ (by omega)).trans h1), (hb.cell (p := ⟨g, i * 2 + 1, none⟩) hgl).trans ((hrow.cellAt _ (by omega)).trans h2)⟩)
  obtain ⟨m, hm⟩ : ∃ m, K.length = m := ⟨_, rfl⟩
  have hlk : (Instr.lookup 67 (.map (some bb)) (.string ⟨p.toArray⟩) false).run Tryz.prog w = .ok (.slice va m vc) w := by
    have hm' := mvAt_block h3 (hb.block bb (mvAt_lt h3))
    rw [mv_look1 hm' Tryz.underlying67 (dtzK w) p hp]
    unfold kidF
    rw [hKe]
    by_cases h0 : K = []
    · have e := hF0 h0
      rw [hva] at e
      rw [if_pos h0, Option.getD_none, ← e, hm]
    · rw [if_neg h0, Option.getD_some, hva, hm]
  have HM := Lib.hid hm
  have hTz := wkT_zero out W K
  have hTa := wkT_all out W K
  have hTn := wkT_next out W K
  have hTl := wkT_le out W K
  rw [List.length_append] at hTl
  obtain ⟨T, hT⟩ : ∃ T, wkT out W K = T := ⟨_, rfl⟩
  rw [hT] at hTz hTa hTn hTl
  rw [← hTa, hm]
  have HT := Lib.hid (And.intro (show ∀ i (h : i < K.length), T (i + 1) = T i ++ [K[i].2] ++ W K[i].2 from hTn) (show ∀ i, (T i).length ≤ 100000 from fun i => Nat.le_trans (hTl i) hlen))
  have HRec := Lib.hid hrec
  have HV := Lib.hid (And.intro hb hv)
  have HT0 := Lib.hid hTz
  clear hrec hTz hTa hTn hTl hlen hT hrow hF0 hva h3 h4 hg hb hv hm
  go_enter Tryz.func39, Tryz.ntmps39
  go_wp2
  clear c0 c1 c2 hlk
  go_loopw [2, 16] (fun ov iv wr => ∃ i : Nat, i ≤ m ∧ iv = .int .i64 (i : Nat) ∧ Below w0.heap.size w0 wr ∧ wr.ownsRow w0.heap.size 9 1 ov (T i).length (sc (T i)) ∧ Chg (fun k => some k = v.ownBlock) w wr ∧ (ov.ownBlock = v.ownBlock ∨ ∃ k, ov.ownBlock = some k ∧ w.heap.size ≤ k)) (fun _ iv _ => m - (intOf iv).toNat)
  case atStart => exact ⟨0, by omega, rfl, HV.out.1, by rw [HT0.out]; exact HV.out.2, Chg.refl _ _, .inl rfl⟩
  case round =>
    obtain ⟨i, hi, rfl, hb, hown, hc, hob⟩ := hrel
    by_cases hlt : i < m
    · obtain ⟨oa, oc, rfl⟩ := ownsRow_slice hown
      have hkl : (i : Int) < (m : Int) := by omega
      have hiK : i < K.length := by rw [HM.out]; exact hlt
      obtain ⟨vg, rfl, a0, a1⟩ := HCe.out wr hb i hiK
      have HKi0 := HT.out.1 i hiK
      have HTl := Lib.hid (show (T i).length + 1 + (W K[i].2).length ≤ 100000 by have := HT.out.2 (i + 1); rw [HKi0] at this; simp at this; omega)
      obtain ⟨⟨l0, m0⟩, hki⟩ : ∃ x, K[i] = x := ⟨_, rfl⟩
      rw [hki] at a0 a1 HTl HKi0
      dsimp only at a0 a1 HTl HKi0
      have HKi := Lib.hid hki
      have HKn := Lib.hid HKi0
      obtain ⟨W5, hW5⟩ : ∃ W5, wr.alloc (.cells #[.string ⟨l0.toArray⟩, .string ⟨m0.toArray⟩] 86) = W5 := ⟨_, rfl⟩
      have hb5 : Below wr.heap.size wr W5 := by rw [← hW5]; exact (Below.refl _ wr).alloc (Nat.le_refl _) _
      have y5 : W5.heap[wr.heap.size]? = some (.cells #[.string ⟨l0.toArray⟩, .string ⟨m0.toArray⟩] 86 (0, 0)) := by rw [← hW5]; exact heap_alloc_new wr _
      obtain ⟨f0, f1⟩ := obj2s y5
      have zx := obj_lt y5
      have H := Lib.hid (And.intro hb (And.intro hb5 (And.intro hown (And.intro hc hob))))
      have HW5 := Lib.hid hW5
      obtain ⟨bx, hbx⟩ : ∃ bx, wr.heap.size = bx := ⟨_, rfl⟩
      rw [hbx] at f0 f1 zx
      have HBx := Lib.hid hbx
      clear hb hb5 y5 hown hc hob hki HKi0 hW5
      go_wp2_with fail
      rw [HW5.out]
      try rw [hbx]
      clear a0 a1 f0
      have k1 : ∀ ob, (W5.drew.alloc ob).cell? ⟨bx, 1, none⟩ = some (.string ⟨m0.toArray⟩) := fun ob => (((Below.refl W5.heap.size W5).drew.alloc (Nat.le_refl _) ob).cell (p := ⟨bx, 1, none⟩) zx).trans f1
      refine wp_region_noPanic ?_
      refine wp_region_held_drew (S := fun w' => w'.cell? ⟨bx, 1, none⟩ = some (.string ⟨m0.toArray⟩)) (by kernel_rfl) ?_ (fun hHeld => ?_)
      · exact f1
      refine wpAnyH_take (i := 0) (v := ?vw0) rfl (by kernel_rfl) (by kernel_rfl) (by kernel_rfl) (fun _ _ _ h => h) (Or.inl ⟨by rfl, ?yw0⟩) (by assumption) ?rw0
      case yw0 => (intro w' hSw; (try dsimp only at hSw); go_simp; with_reducible rfl)
      try simp only [List.getElem_toArray, List.getElem_cons_zero, List.getElem_cons_succ, Act.put, List.setIfInBounds_toArray, List.set_cons_zero, List.set_cons_succ]
      refine wpAnyH_take (i := 1) (v := ?vw1) rfl (by kernel_rfl) (by kernel_rfl) (by kernel_rfl) (fun _ _ _ h => h) (Or.inl ⟨by rfl, ?yw1⟩) (by assumption) ?rw1
      case yw1 => (intro w' hSw; (try dsimp only at hSw); go_simp; with_reducible rfl)
      try simp only [List.getElem_toArray, List.getElem_cons_zero, List.getElem_cons_succ, Act.put, List.setIfInBounds_toArray, List.set_cons_zero, List.set_cons_succ]
      refine wpAnyH_take (i := 2) (v := ?vw2) rfl (by kernel_rfl) (by kernel_rfl) (by kernel_rfl) (fun _ _ _ h => h) (Or.inl ⟨by rfl, ?yw2⟩) (by assumption) ?rw2
      case yw2 => (intro w' hSw; (try dsimp only at hSw); go_simp; with_reducible rfl)
      try simp only [List.getElem_toArray, List.getElem_cons_zero, List.getElem_cons_succ, Act.put, List.setIfInBounds_toArray, List.set_cons_zero, List.set_cons_succ]
      refine wpAnyH_take (i := 3) (v := ?vw3) rfl (by kernel_rfl) (by kernel_rfl) (by kernel_rfl) (fun _ _ _ h => h) (Or.inl ⟨by rfl, ?yw3⟩) (by assumption) ?rw3
      case yw3 => (intro w' hSw; (try dsimp only at hSw); go_simp; with_reducible rfl)
      try simp only [List.getElem_toArray, List.getElem_cons_zero, List.getElem_cons_succ, Act.put, List.setIfInBounds_toArray, List.set_cons_zero, List.set_cons_succ]
      refine wpAnyH_take (i := 4) (v := ?vw4) rfl (by kernel_rfl) (by kernel_rfl) (by kernel_rfl) (fun _ _ _ h => h) (Or.inl ⟨by rfl, ?yw4⟩) (by assumption) ?rw4
      case yw4 => (intro w' hSw; (try dsimp only at hSw); go_simp; with_reducible rfl)
      try simp only [List.getElem_toArray, List.getElem_cons_zero, List.getElem_cons_succ, Act.put, List.setIfInBounds_toArray, List.set_cons_zero, List.set_cons_succ]
      refine wpAnyH_take (i := 5) (v := ?vw5) rfl (by kernel_rfl) (by kernel_rfl) (by kernel_rfl) (fun _ _ _ h => h) (Or.inl ⟨by rfl, ?yw5⟩) (by assumption) ?rw5
      case yw5 => (intro w' hSw; (try dsimp only at hSw); go_simp; with_reducible rfl)
      try simp only [List.getElem_toArray, List.getElem_cons_zero, List.getElem_cons_succ, Act.put, List.setIfInBounds_toArray, List.set_cons_zero, List.set_cons_succ]
      refine wpAnyH_ready (rs := [6]) (by kernel_rfl) (by simp) ?_
      refine AllReadyH.cons (o := _) rfl (fun KR hKR => ?cw6) ?nw6
      case nw6 => exact AllReadyH.nil
      go_simp
      refine hKR.out _ _ ?_ (fun hHeld => ?_)
      · exact k1 _
      clear hKR KR
      try simp only [List.getElem_toArray, List.getElem_cons_zero, List.getElem_cons_succ, Act.put, List.setIfInBounds_toArray, List.set_cons_zero, List.set_cons_succ]
      refine wpAnyH_ready (rs := [7]) (by kernel_rfl) (by simp) ?_
      refine AllReadyH.cons (o := _) rfl (fun KR hKR => ?cw7) ?nw7
      case nw7 => exact AllReadyH.nil
      have hbX : ∀ ob, Below wr.heap.size wr (W5.drew.alloc ob) := fun ob => H.out.2.1.drew.alloc H.out.2.1.size ob
      refine step_appendr rfl (.tmp 23) (.tmp 26) 47 9 rfl w0.heap.size 1 16 (.string ByteArray.empty) Tryz.dninfo9 Tryz.underlying47 rfl (by decide) (Value.slice oa (T i).length oc) (T i).length (sc (T i)) rfl ?c0 _ 1 [.string ⟨m0.toArray⟩] rfl ?c1 (by decide) ?c2 ?c3 ?c4 ?c5 ?_
      case c0 => exact ownsRow_below H.out.2.2.1 (hbX _)
      case c1 => exact ⟨rfl, .inr ⟨_, _, rfl, (by first | exact cell_new W5.drew _ _ | exact cell_new W5 _ _)⟩⟩
      case c2 => intro u hu; simp at hu; subst hu; rfl
      case c3 => have := HTl.out; unfold maxLen; omega
      case c4 => have := HTl.out; omega
      case c5 => exact Nat.le_trans H.out.1.size (hbX _).size
      intro nv w7 g1 g2 g3
      obtain ⟨na, nc, rfl⟩ := ownsRow_slice g1
      have g2w : Chg (fun k => some k = (Value.slice oa (T i).length oc).ownBlock) wr w7 := (Chg.ofBelow (hbX _)).trans g2 (fun _ _ h => h)
      have hbB : Below w0.heap.size w0 w7 := H.out.1.trans (g2w.toBelow H.out.1.size (fun k _ hk => (H.out.2.2.1.lt k hk.symm).1))
      have n1 : ¬ some bx = (Value.slice oa (T i).length oc).ownBlock := fun e => by have := (H.out.2.2.1.lt bx e.symm).2; rw [HBx.out] at this; omega
      have zx7 : bx < w7.heap.size := Nat.lt_of_lt_of_le zx (Nat.le_trans (by show W5.heap.size ≤ (W5.drew.alloc _).heap.size; simp) g2.size)
      have i1 : w7.cell? ⟨bx, 1, none⟩ = some (.string ⟨m0.toArray⟩) := (cell_chg g2 (p := ⟨bx, 1, none⟩) (Nat.lt_of_lt_of_le zx (by show W5.heap.size ≤ (W5.drew.alloc _).heap.size; simp)) n1).trans (k1 _)
      have g1 : w7.ownsRow w0.heap.size 9 1 (.slice na ((T i).length + 1) nc) (T i ++ [m0]).length (sc (T i ++ [m0])) := by rw [sc_snoc, List.length_append]; exact g1
      have g3 : (Value.slice na ((T i).length + 1) nc).ownBlock = (Value.slice oa (T i).length oc).ownBlock ∨ ∃ k, (Value.slice na ((T i).length + 1) nc).ownBlock = some k ∧ wr.heap.size < k := by (rcases g3 with e | ⟨k, e1, e2⟩; exact .inl e; refine .inr ⟨k, e1, ?_⟩; rw [HBx.out]; exact Nat.lt_of_lt_of_le zx (Nat.le_trans (by show W5.heap.size ≤ (W5.drew.alloc _).heap.size; simp) e2))
      have HRc := Lib.hid (fun w' (hb : Below w7.heap.size w7 w') => HRec.out i hiK (T i ++ [m0]) (.slice na ((T i).length + 1) nc) w' (hbB.trans (hb.mono hbB.size)) (ownsRow_below g1 hb) (by have := HTl.out; rw [HKi.out]; simp; omega))
      rw [HKi.out] at HRc
      have H7 := Lib.hid (And.intro g1 (And.intro g2w (And.intro g3 hbB)))
      clear g1 g2 g3 g2w hbB n1 hbX
      refine hKR.out _ _ ?_ (fun hHeld => ?_)
      · exact i1
      clear hKR KR
      try simp only [List.getElem_toArray, List.getElem_cons_zero, List.getElem_cons_succ, Act.put, List.setIfInBounds_toArray, List.set_cons_zero, List.set_cons_succ]
      refine wpAnyH_ready (rs := [8]) (by kernel_rfl) (by simp) ?_
      refine AllReadyH.cons (o := _) rfl (fun KR hKR => ?cw8) ?nw8
      case nw8 => exact AllReadyH.nil
      go_simp
      go_at_call 39
      with_reducible refine (HRc.out _ (by first | exact (Below.refl _ w7).drew | exact Below.refl _ w7)).mono ?_
      rintro en w8 ⟨v8, rfl, g4, g5, g6, g7⟩
      have g6 : Chg (fun k => some k = (Value.slice na ((T i).length + 1) nc).ownBlock) w7 w8 := (by first | exact g6 | exact (Chg.ofBelow (Below.refl _ w7).drew).trans g6 (fun _ _ h => h))
      obtain ⟨ma, mc, rfl⟩ := ownsRow_slice g4
      obtain ⟨N8, hN8⟩ : ∃ N8, (T i ++ [m0] ++ W m0).length = N8 := ⟨_, rfl⟩
      rw [hN8] at g4 g7 ⊢
      have HN8 := Lib.hid hN8
      clear hN8
      have n2 : ¬ some bx = (Value.slice na ((T i).length + 1) nc).ownBlock := fun e => by (rcases H7.out.2.2.1 with q | ⟨k, q, hk⟩; exact absurd (e.trans q) (fun e => by have := (H.out.2.2.1.lt bx e.symm).2; rw [HBx.out] at this; omega); rw [q] at e; injection e with e; rw [HBx.out] at hk; omega)
      have j1 : w8.cell? ⟨bx, 1, none⟩ = some (.string ⟨m0.toArray⟩) := (cell_chg g6 (p := ⟨bx, 1, none⟩) zx7 n2).trans i1
      have H8 := Lib.hid (And.intro g4 (And.intro g5 (And.intro g6 g7)))
      clear g4 g5 g6 g7 n2
      go_wp2_with fail
      refine hKR.out _ _ ?_ (fun hHeld => ?_)
      · exact j1
      clear hKR KR
      try simp only [List.getElem_toArray, List.getElem_cons_zero, List.getElem_cons_succ, Act.put, List.setIfInBounds_toArray, List.set_cons_zero, List.set_cons_succ]
      refine wpAnyH_take (i := 9) (v := ?vw9) rfl (by kernel_rfl) (by kernel_rfl) (by kernel_rfl) (fun _ _ _ h => h) (Or.inl ⟨by rfl, ?yw9⟩) (by assumption) ?rw9
      case yw9 => (intro w' hSw; (try dsimp only at hSw); go_simp; with_reducible rfl)
      try simp only [List.getElem_toArray, List.getElem_cons_zero, List.getElem_cons_succ, Act.put, List.setIfInBounds_toArray, List.set_cons_zero, List.set_cons_succ]
      refine wpAnyH_done (by kernel_rfl) ?_ _
      refine NoPanic.normal ?_
      go_wp2
      refine ⟨⟨i + 1, by omega, by go_num, H8.out.2.1, by rw [HKn.out, HN8.out]; exact H8.out.1, ?_, ?_⟩, by simp [intOf]; omega⟩
      · refine (H.out.2.2.2.1.trans H7.out.2.1 (fun k hk e => ?_)).trans H8.out.2.2.1 (fun k hk e => ?_)
        · rcases H.out.2.2.2.2 with q | ⟨j, q, hj⟩
          · exact e.trans q
          · have := q.symm.trans e.symm
            injection this with this
            omega
        · rcases H7.out.2.2.1 with q2 | ⟨j, q2, hj⟩
          · rcases H.out.2.2.2.2 with q | ⟨j, q, hj⟩
            · exact (e.trans q2).trans q
            · have := (q2.trans q).symm.trans e.symm
              injection this with this
              omega
          · have := q2.symm.trans e.symm
            injection this with this
            have := H.out.2.2.2.1.size
            omega
      · rcases H8.out.2.2.2 with q3 | ⟨j, q3, hj⟩
        · rw [q3]
          rcases H7.out.2.2.1 with q2 | ⟨j, q2, hj⟩
          · rw [q2]; exact H.out.2.2.2.2
          · exact .inr ⟨j, q2, by have := H.out.2.2.2.1.size; omega⟩
        · exact .inr ⟨j, q3, by have := H.out.2.2.2.1.size; have := H7.out.2.1.size; omega⟩
    · obtain rfl : i = m := by omega
      obtain ⟨oa, oc, rfl⟩ := ownsRow_slice hown
      have H := Lib.hid (And.intro hb (And.intro hown (And.intro hc hob)))
      clear hb hown hc hob
      go_wp2
      go_ret
      exact ⟨_, rfl, H.out.2.1, H.out.1, H.out.2.2.1, H.out.2.2.2⟩
end Go.Proofs.YtbmnpjkcomcboaaGreatDoor
namespace Go.Proofs.YtbmnpjkcomcboaaGreatDoor
set_option linter.unusedSimpArgs false
set_option linter.unusedVariables false
open Go Go.RowKit Go.Proofs.BerK Go.Proofs.MemK Go.Proofs.UtfK Go.Maps Go.WideMaps

theorem kid_deep {L : List Ent} (hT : TrL L) {p : List UInt8} {c : Av} (h : c ∈ kidN L p) : ∃ r D, nrD c.2 = some (r :: D) ∧ (paL c.2).length = (paL p).length + 1 ∧ (paL c.2).length ≤ 32 := by
  obtain ⟨e, he, rfl, hp⟩ := kid_mem h
  have hn := hT.nm e he
  obtain ⟨p2, l, h1, _, h3, _⟩ := nm_par hn
  rw [hp] at h1
  obtain ⟨rfl, _⟩ := Prod.mk.inj h1
  obtain ⟨r, D, hr⟩ := hn
  exact ⟨r, D, hr, by show (paL e.1).length = _; rw [h3]; simp, nm_deep ⟨r, D, hr⟩⟩
theorem nr_len {p : List UInt8} {D : List (List Av)} (h : nrD p = some D) : p.length ≤ 4096 := by
  have := nr_some h
  rw [this.1]; exact this.2.2.2
theorem dtwalk_any (B g : Nat) (sv : Value) (S : Nat → Prop) (L : List Ent) (w0 : World) (h : TrAt w0 B g sv S L) (hT : TrL L) (hl : L.length ≤ 1024) : ∀ (n : Nat) (p : List UInt8) (D : List (List Av)) (out : List (List UInt8)) (v : Value) (w : World),
    nrD p = some D → 32 ≤ (paL p).length + n → Below w0.heap.size w0 w → w.ownsRow w0.heap.size 9 1 v out.length (sc out) → out.length + (walkN n L p).length ≤ 100000 →
    Calls Tryz.prog 39 #[.pointer (some ⟨g, 0, none⟩), .string ⟨p.toArray⟩, v] w (WkPost (out ++ walkN n L p) v w0 w)
  | 0, p, D, out, v, w, hp, hn, hb, hv, hlen => by
    have hK : kidN L p = [] := by
      refine List.eq_nil_iff_forall_not_mem.2 fun c hc => ?_
      obtain ⟨_, _, _, h1, h2⟩ := kid_deep hT hc
      omega
    have := walk_step B g sv S L w0 h p (by have := nr_len hp; omega) (fun _ => []) [] hK out v w hb hv (by simp; have : (walkN 0 L p).length = 0 := rfl; omega) (by simp) (fun i hi => absurd hi (by simp))
    exact this
  | n + 1, p, D, out, v, w, hp, hn, hb, hv, hlen => by
    rw [walkN_succ] at hlen ⊢
    refine walk_step B g sv S L w0 h p (by have := nr_len hp; omega) (walkN n L) (kidN L p) rfl out v w hb hv hlen (by have := kid_len L p; omega) (fun i hi o v w' hb' hv' hlen' => ?_)
    obtain ⟨r, D', hr, h1, h2⟩ := kid_deep hT (List.getElem_mem hi)
    exact dtwalk_any B g sv S L w0 h hT hl n _ _ o v w' hr (by omega) hb' hv' hlen'
def belC (L : List Ent) (p : List UInt8) : List (List UInt8) := if p = [] then L.map (·.1) else if hasE L p = true then belN L p else []
def BlPost (xs : List (List UInt8)) (w : World) (en : Ending) (w' : World) : Prop := ∃ nv, en = .returned nv ∧ w'.ownsRow w.heap.size 9 1 nv xs.length (sc xs) ∧ Below w.heap.size w w'
theorem bel_len (L : List Ent) (p : List UInt8) : (belN L p).length ≤ L.length := by
  unfold belN
  have := List.length_filter_le (fun s => undL s p) (L.map (·.1))
  simpa using this
set_option maxHeartbeats 6400000 in
set_option maxRecDepth 100000 in
theorem dtbel_any (B g : Nat) (sv : Value) (S : Nat → Prop) (L : List Ent) (p : List UInt8) (w : World) (h : TrAt w B g sv S L) (hT : TrL L) (hl : L.length ≤ 1024) (hp : p.length ≤ 140737488355328) :
    Calls Tryz.prog 17 #[.pointer (some ⟨g, 0, none⟩), .string ⟨p.toArray⟩] w (BlPost (belC L p) w) := by
  have HHa := Lib.hid (dthas_any B g sv S L p w h hp)
  have HWk := Lib.hid (fun D out v w' (hD : nrD p = some D) hb hv hlen => dtwalk_any B g sv S L w h hT hl 32 p D out v w' hD (by omega) hb hv hlen)
  have HT := Lib.hid hT
  have HNil := Lib.hid (World.ownsRow_nil w w.heap.size 9 1)
  clear h hT
  by_cases hp0 : p = []
  · subst hp0
    have hr := bel_root HT.out
    have hbc : belC L [] = [] ++ walkN 32 L [] := by unfold belC; rw [if_pos rfl, hr.2]; rfl
    have hwl : (walkN 32 L []).length ≤ 1024 := by rw [hr.2]; simpa using hl
    have HW := Lib.hid (HWk.out [] [] (.slice none 0 0) w nr_nil (Below.refl _ _) (World.ownsRow_nil _ _ _ _) (by simp; omega))
    rw [hbc]
    clear hbc hwl hr HHa HWk
    go_enter Tryz.func17, Tryz.ntmps17
    go_wp2_with fail
    refine HW.out.mono ?_
    rintro en w3 ⟨nv, rfl, h1, h2, h3, h4⟩
    obtain ⟨na, nc, rfl⟩ := ownsRow_slice h1
    obtain ⟨N, hN⟩ : ∃ N, ([] ++ walkN 32 L []).length = N := ⟨_, rfl⟩
    have H := Lib.hid (show w3.ownsRow w.heap.size 9 1 (.slice na ([] ++ walkN 32 L []).length nc) ([] ++ walkN 32 L []).length (sc ([] ++ walkN 32 L [])) ∧ Below w.heap.size w w3 from ⟨h1, h2⟩)
    have HN := Lib.hid hN
    rw [hN]
    clear h1 h2 h3 h4 hN
    go_wp2
    go_ret
    exact ⟨_, rfl, HN.out ▸ H.out.1, H.out.2⟩
  · have hpe : p.isEmpty = false := by simpa using hp0
    obtain ⟨q, hq⟩ : ∃ q, hasE L p = q := ⟨_, rfl⟩
    rw [hq] at HHa
    have HQ := Lib.hid hq
    have HP := Lib.hid hp0
    clear hq
    go_enter Tryz.func17, Tryz.ntmps17
    go_wp2_with fail
    refine HHa.out.mono ?_
    rintro en w2 ⟨rfl, hb2⟩
    have H2 := Lib.hid hb2
    clear hb2
    cases q with
    | false =>
      go_wp2
      go_ret
      refine ⟨_, rfl, ?_, H2.out⟩
      have : belC L p = [] := by unfold belC; rw [if_neg HP.out, if_neg (by rw [HQ.out]; decide)]
      rw [this]
      exact World.ownsRow_nil _ _ _ _
    | true =>
      obtain ⟨e, he, hep⟩ := hasE_iff.1 HQ.out
      obtain ⟨r, D, hD⟩ := HT.out.nm e he
      rw [hep] at hD
      have hba := bel_at HT.out he 32 (by omega)
      rw [hep] at hba
      have hbc : belC L p = [p] ++ walkN 32 L p := by unfold belC; rw [if_neg HP.out, if_pos HQ.out, hba]; rfl
      have hwl : (walkN 32 L p).length ≤ 1024 := by have := bel_len L p; rw [hba] at this; simp at this; omega
      have HBC := Lib.hid hbc
      clear hba he hep hbc
      go_wp2_with (at_builtin; refine wpList_pushc rfl (.tmp 14) (.tmp 16) 47 9 rfl w.heap.size 1 16 (.string ByteArray.empty) Tryz.dninfo9 Tryz.underlying47 rfl (by decide) [.string ⟨p.toArray⟩] rfl ?c0 _ 0 [] rfl _ rfl ?c3 (World.ownsRow_nil _ _ _ _) ?c1 ?c2 H2.out.size ?_)
      case c0 => intro u hu; simp at hu; subst hu; rfl
      case c1 => unfold maxLen; omega
      case c2 => omega
      case c3 => rfl
      intro pv w4 g1 g2 g3
      obtain ⟨pa, pc, rfl⟩ := ownsRow_slice g1
      have hb4 : Below w.heap.size w w4 := H2.out.trans (g2.toBelow H2.out.size (fun k _ hk => by simp [Value.ownBlock] at hk))
      have HW := Lib.hid (HWk.out _ [p] (.slice pa 1 pc) w4 hD hb4 g1 (by simp; omega))
      have H4 := Lib.hid hb4
      clear g1 g2 g3 hb4 hD hwl
      go_wp2_with fail
      refine HW.out.mono ?_
      rintro en w3 ⟨nv, rfl, h1, h2, h3, h4⟩
      obtain ⟨na, nc, rfl⟩ := ownsRow_slice h1
      obtain ⟨N, hN⟩ : ∃ N, ([p] ++ walkN 32 L p).length = N := ⟨_, rfl⟩
      have H := Lib.hid (show w3.ownsRow w.heap.size 9 1 (.slice na ([p] ++ walkN 32 L p).length nc) ([p] ++ walkN 32 L p).length (sc ([p] ++ walkN 32 L p)) ∧ Below w.heap.size w w3 from ⟨h1, h2⟩)
      have HN := Lib.hid hN
      rw [hN]
      clear h1 h2 h3 h4 hN
      go_wp2
      go_ret
      refine ⟨_, rfl, ?_, H.out.2⟩
      rw [HBC.out]
      exact HN.out ▸ H.out.1
set_option maxHeartbeats 1600000 in
theorem dtbel_nil (p : List UInt8) (w : World) : Calls Tryz.prog 17 #[.pointer none, .string ⟨p.toArray⟩] w (fun en w' => en = .returned (.slice none 0 0) ∧ w = w') := by
  go_enter Tryz.func17, Tryz.ntmps17
  go_wp2
  go_ret
  exact ⟨rfl, rfl⟩
set_option maxHeartbeats 1600000 in
theorem dtnames_nil (w : World) : Calls Tryz.prog 22 #[.pointer none] w (fun en w' => en = .returned (.slice none 0 0) ∧ w = w') := by
  have HB := Lib.hid (dtbel_nil [] w)
  go_enter Tryz.func22, Tryz.ntmps22
  go_wp2_with fail
  refine HB.out.mono ?_
  rintro en w2 ⟨rfl, rfl⟩
  go_wp2
  go_ret
  exact ⟨rfl, rfl⟩
set_option maxHeartbeats 3200000 in
theorem dtnames_any (B g : Nat) (sv : Value) (S : Nat → Prop) (L : List Ent) (w : World) (h : TrAt w B g sv S L) (hT : TrL L) (hl : L.length ≤ 1024) :
    Calls Tryz.prog 22 #[.pointer (some ⟨g, 0, none⟩)] w (BlPost (L.map (·.1)) w) := by
  have HB := Lib.hid (dtbel_any B g sv S L [] w h hT hl (by simp))
  rw [show belC L [] = L.map (·.1) by unfold belC; rw [if_pos rfl]] at HB
  obtain ⟨X, hX⟩ : ∃ X, L.map (·.1) = X := ⟨_, rfl⟩
  rw [hX] at HB ⊢
  clear h hT hX
  go_enter Tryz.func22, Tryz.ntmps22
  go_wp2_with fail
  refine HB.out.mono ?_
  rintro en w2 ⟨nv, rfl, h1, h2⟩
  obtain ⟨na, nc, rfl⟩ := ownsRow_slice h1
  obtain ⟨N, hN⟩ : ∃ N, X.length = N := ⟨_, rfl⟩
  have H := Lib.hid (And.intro h1 h2)
  have HN := Lib.hid hN
  rw [hN]
  clear h1 h2 hN
  go_wp2
  go_ret
  exact ⟨_, rfl, HN.out ▸ H.out.1, H.out.2⟩
end Go.Proofs.YtbmnpjkcomcboaaGreatDoor
namespace Go.Proofs.YtbmnpjkcomcboaaGreatDoor
set_option linter.unusedSimpArgs false
set_option linter.unusedVariables false
open Go Go.RowKit Go.Proofs.BerK Go.Proofs.MemK Go.Proofs.UtfK Go.Maps Go.WideMaps

def ClPostD (K : List Av) (w : World) (en : Ending) (w' : World) : Prop :=
  ∃ a c, en = .returned (.slice a K.length c) ∧ w'.ownsRow w.heap.size 86 2 (.slice a K.length c) K.length (avc K) ∧ Below w.heap.size w w'
theorem owns_emptyD (w : World) : (w.alloc (.cells #[] 86)).ownsRow w.heap.size 86 2 (.slice (some ⟨w.heap.size, 0, none⟩) 0 0) 0 [] :=
  ⟨rfl, .inr ⟨w.heap.size, 0, #[], rfl, Nat.le_refl _, heap_alloc_new w _, Nat.le_refl _, Nat.zero_le _, rfl, rfl⟩⟩
set_option maxHeartbeats 800000 in
set_option maxRecDepth 100000 in
theorem dtclone_any (K : List Av) (v : Value) (B : Nat) (w : World) (hrow : w.ownsRow B 86 2 v K.length (avc K)) (h0 : K ≠ []) (hl : K.length ≤ 1000000) :
    Calls Tryz.prog 33 #[v] w (ClPostD K w) := by
  have hr := rdRow_owns hrow
  obtain ⟨ad, c, rfl⟩ : ∃ ad c, v = .slice (some ad) K.length c := by
    rcases hrow.2 with ⟨e, h1⟩ | ⟨g, cap, cur, e, _⟩
    · exact absurd (List.eq_nil_of_length_eq_zero h1) h0
    · exact ⟨_, _, e⟩
  have hq : ∀ w : World, (binOp .eql 83 (.slice (some ad) K.length c) (.slice none 0 0)).run Tryz.prog w = .ok (.bool false) w := fun w => by kernel_rfl
  have hr1 : RdRow (w.alloc (.cells #[] 86)) 2 (.slice (some ad) K.length c) K.length (avc K) := rdRow_below hr ((Below.refl _ w).alloc (Nat.le_refl _) _)
  have HR := Lib.hid (And.intro hr1 (owns_emptyD w))
  obtain ⟨n1, hn1⟩ : ∃ n, K.length = n := ⟨_, rfl⟩
  have HN := Lib.hid hn1
  rw [hn1] at HR hl hq ⊢
  clear hr hr1 hn1 hrow
  go_enter Tryz.func33, Tryz.ntmps33
  go_wp2_with (at_builtin; refine wpList_appendr rfl (.tmp 5) (.tmp 6) 83 86 rfl w.heap.size 2 32 _ Tryz.dtinfo Tryz.underlying83 rfl (by decide) _ 0 [] rfl HR.out.2 _ n1 (avc K) rfl HR.out.1 (avc_oneD K) (by unfold maxLen; omega) (by omega) (by simp) ?_; intro v' w' h1 h2 h3)
  rw [Nat.zero_add] at h1
  obtain ⟨na, nc, rfl⟩ := ownsRow_slice h1
  have hc : Chg (fun k => some k = (Value.slice (some ⟨w.heap.size, 0, none⟩) 0 0).ownBlock) (w.alloc (.cells #[] 86)) w' := h2
  have hb : Below w.heap.size w w' := ((Below.refl _ w).alloc (Nat.le_refl _) _).trans (hc.toBelow (by simp) (fun k _ hk => by injection hk with hk; have hk : k = w.heap.size := hk; omega))
  clear h2 h3
  go_ret
  have hn := HN.out
  subst hn
  exact ⟨na, nc, rfl, h1, hb⟩
theorem mv_key {D : DataW Value} {f : List UInt8 → Option Value} (h : MvIs D f) (hl : ∀ s, (f s).isSome = true → s.length ≤ 140737488355328) {x : Value} {kl : Lit} {y : DataW Value × List MemPlace} {c : Value}
    (hkey : keyOf Tryz.prog 9 x = some kl) (hv : anyE c = some y) (hat : ∀ zd, D.atKey kl zd = y.1) : ∃ s : List UInt8, kl = .string s ∧ x = .string ⟨s.toArray⟩ ∧ f s = some c := by
  have hh := has_true_of_atKey hat
  obtain ⟨s, rfl⟩ := h.2.2 kl hh
  have hs := h.1 s
  rw [hh] at hs
  refine ⟨s, rfl, snlaw.inj hkey (snkey s (hl s hs.symm)), ?_⟩
  cases hq : f s with
  | none => rw [hq] at hs; cases hs
  | some v =>
    have h1 := h.2.1 s v hq .nil
    have h2 := hat .nil
    have hy : ((.held c, []) : DataW Value × List MemPlace) = y := Option.some.inj hv
    rw [← hy] at h2
    have h3 : (DataW.held v : DataW Value) = .held c := h1.symm.trans h2
    rw [held_inj h3]
def McPost (bd : Nat) (f : List UInt8 → Option Value) (n : Nat) (w : World) (en : Ending) (w' : World) : Prop := en = .returned (.tuple #[]) ∧ MvAt w' bd f n ∧ Chg (fun k => k = bd) w w'
set_option maxHeartbeats 3200000 in
set_option maxRecDepth 100000 in
theorem dtmcopy_any (bd bs n : Nat) (f : List UInt8 → Option Value) (w : World) (hd : MvAt w bd (fun _ => none) 0) (hs : MvAt w bs f n) (hne : bd ≠ bs) (hn : n ≤ 1000000) (hl : ∀ s, (f s).isSome = true → s.length ≤ 140737488355328)
    (hsh : ∀ s v, f s = some v → ∃ (d : List UInt8) (a : Option Addr) (n c : Nat), v = .agg #[.string ⟨d.toArray⟩, .slice a n c]) :
    Calls Tryz.prog 32 #[.map (some bd), .map (some bs)] w (McPost bd f n w) := by
  have hbd := mvAt_lt hd
  have hbs := mvAt_lt hs
  obtain ⟨Dd, hd1, hd2, hd3⟩ := hd
  obtain ⟨Ds, hs1, hs2, hs3⟩ := hs
  have HD := Lib.hid (And.intro hd1 (And.intro hd2 hd3))
  have HS := Lib.hid (And.intro hs2 hs3)
  have HL := Lib.hid (And.intro hl hsh)
  clear hd1 hd2 hd3 hs2 hs3 hl hsh
  go_enter Tryz.func32, Tryz.ntmps32
  go_wp2_with (first
    | (at_range; refine wpList_range_own _ rfl _ 66 rfl 9 39 snlaw Tryz.underlying66 anyE bs n _ rfl hs1 ?_; intro w0 hrg0 hg0 hs0)
    | go_in)
  go_frame
  have H0 := Lib.hid (And.intro hrg0 hg0)
  clear hrg0 hg0
  go_loopw [4] (fun _ wr => ∃ (left : Lit → Bool) (cnt : Nat) (Dout : DataW Value), wr.ranges Tryz.prog 9 anyE bs w.heap.size n Ds left cnt ∧ cnt ≤ Maps.size Ds ∧
      wr.ownsMap Tryz.prog 9 anyE bd (Maps.size Ds - cnt) Dout ∧ Merged Dout Dd Ds left ∧ w.grownBy wr (some bd))
    (fun _ wr => wr.rangeLeft bs w.heap.size)
  case atStart =>
    exact ⟨_, _, Dd, H0.out.1, Nat.le_refl _, (HD.out.1.kept H0.out.2 (by simp)).mono (by omega), merged_start Dd Ds, H0.out.2.but _⟩
  case round =>
    obtain ⟨left, cnt, Dout, hrg, hcs, hout, hM, hgw⟩ := hrel
    have H := Lib.hid (And.intro hcs (And.intro hout (And.intro hM hgw)))
    have HRg := Lib.hid hrg
    clear hcs hout hM hgw
    go_wp2_with (first
      | (at_next; refine wpList_next_ranges _ rfl _ rfl 9 snlaw anyE id id (fun key _ _ => ⟨key, rfl⟩) (fun v _ _ => ⟨v, rfl⟩) bs w.heap.size n _ _ _ rfl hrg ?_ ?_)
      | go_in)
    · intro hc0 hl0
      have H1 := Lib.hid (And.intro hc0 hl0)
      clear hc0 hl0 hrg
      go_wp2
      go_end0
      obtain ⟨hcs, hout, hM, hgw⟩ := H.out
      obtain ⟨hc0, hl0⟩ := H1.out
      have hDd : ∀ k, Maps.has Dd k = false := fun k => by
        cases hq : Maps.has Dd k with
        | false => rfl
        | true =>
          obtain ⟨s, rfl⟩ := HD.out.2.1.2.2 k hq
          have := HD.out.2.1.1 s
          rw [hq] at this; cases this
      have e : Dout = Ds := by
        refine Maps.ext (hout.canon snlaw) (HRg.out.owns.canon snlaw) (fun k => ?_) (fun k z hk => ?_)
        · rw [hM.1 k, hl0 k, hDd k]; simp
        · have h2 : Maps.has Ds k = true := by
            have h1 := hM.1 k
            rw [hk, hl0 k, hDd k] at h1
            simpa using h1.symm
          rw [hM.2 k z, if_pos (by rw [hl0 k, h2]; rfl)]
      subst e
      refine ⟨rfl, ⟨_, ?_, HS.out.1, HS.out.2⟩, (Chg.ofGrown hgw).mono (fun k _ e => by injection e with e)⟩
      subst hc0
      rw [← HS.out.2]; simpa using hout
    · intro x c kl yd yp w1 cnt1 hkey hlx hv hat hrg1 hlt hg1 hs1' hen
      have hkey : keyOf Tryz.prog 9 x = some kl := hkey
      have hv : anyE c = some (yd, yp) := hv
      obtain ⟨s, rfl, rfl, hfs⟩ := mv_key HS.out.1 HL.out.1 hkey hv hat
      obtain ⟨d, va, vn, vc, rfl⟩ := HL.out.2 s c hfs
      obtain ⟨hcs, hout, hM, hgw⟩ := H.out
      have hout1 := hout.kept hg1 (fun e => by have := Option.some.inj e; omega)
      have hbb : Below w1.heap.size w1 (w1.alloc (.cells #[.string ⟨d.toArray⟩, .slice va vn vc] 39)) := (Below.refl _ _).alloc (Nat.le_refl _) _
      have hk' : keyOf Tryz.prog 9 (.string ⟨s.toArray⟩) = some (.string s) := hkey
      have hv' : anyE (.agg #[.string ⟨d.toArray⟩, .slice va vn vc]) = some (.held (.agg #[.string ⟨d.toArray⟩, .slice va vn vc]), []) := rfl
      have hy : ((.held (.agg #[.string ⟨d.toArray⟩, .slice va vn vc]), []) : DataW Value × List MemPlace) = (yd, yp) := Option.some.inj hv
      obtain ⟨rfl, rfl⟩ := Prod.mk.inj hy
      have hen' : (Instr.entry (.pointer (some ⟨w.heap.size, 0, none⟩))).run Tryz.prog w1 = .ok (.tuple #[.string ⟨s.toArray⟩, .agg #[.string ⟨d.toArray⟩, .slice va vn vc]]) w1 := hen
      have hout2 := hout1.alloc (.cells #[.string ⟨d.toArray⟩, .slice va vn vc] 39)
      have hrg2 := hrg1.alloc (.cells #[.string ⟨d.toArray⟩, .slice va vn vc] 39)
      have hg2 := World.grownBy_alloc w1 (.cells #[.string ⟨d.toArray⟩, .slice va vn vc] 39) none
      have hnc := (H.out.1)
      have hnn : Maps.size Ds ≤ 1000000 := by rw [HS.out.2]; exact hn
      have HX := Lib.hid (And.intro hout2 (And.intro hrg2 (And.intro hg2 (And.intro hM (And.intro hgw (And.intro hat (And.intro hg1 hlt)))))))
      have HK := Lib.hid hk'
      clear hout1 hkey hv hv' hen hout hM hgw hrg1 hat hout2 hrg2 hg2 hbb hg1 hk'

      go_wp2_with (first
        | (at_mapUpdate; refine wpList_mapUpdate_own _ rfl _ _ _ 66 rfl 9 39 snlaw Tryz.underlying66 anyE bd _ _ rfl HX.out.1 (by unfold maxLen; omega) _ _ _ rfl rfl HK.out _ _ rfl ?_; intro w2 hout3 hg3; go_frame)
        | go_in)
      obtain ⟨hout2, hrg2, hg2, hM, hgw, hat, hg1, hlt⟩ := HX.out
      have hrg3 := hrg2.kept hg3 (fun e => hne (Option.some.inj e).symm) (fun e => by have := Option.some.inj e; omega)
      go_roundw
      case rel =>
        exact ⟨_, cnt1, _, hrg3, by omega, hout3.mono (by omega), merged_step hM (hout2.isMap) (snlaw.key HK.out) hat, ((hgw.andThen hg1 (fun j hj => .inl (by cases hj; exact Nat.le_refl _))).andThen hg2 (fun j hj => by cases hj)).andThen hg3 (fun j hj => .inr hj)⟩
      case measure => rw [hrg3.left_eq, HRg.out.left_eq]; exact hlt
end Go.Proofs.YtbmnpjkcomcboaaGreatDoor
namespace Go.Proofs.YtbmnpjkcomcboaaGreatDoor
set_option linter.unusedSimpArgs false
set_option linter.unusedVariables false
open Go Go.RowKit Go.Proofs.BerK Go.Proofs.MemK Go.Proofs.UtfK Go.Maps Go.WideMaps

theorem cell_chgV {S : Nat → Prop} {w w' : World} (h : Chg S w w') {p : Addr} (hg : p.block < w.heap.size) (hS : ¬ S p.block) : w'.cell? p = w.cell? p := cell_chg h hg hS
theorem ranges_chg {S : Nat → Prop} {w w' : World} {b r n cnt : Nat} {D : DataW Value} {left : Lit → Bool} (h : w.ranges Tryz.prog 9 anyE b r n D left cnt) (hc : Chg S w w') (hb : ¬ S b) (hr : ¬ S r) : w'.ranges Tryz.prog 9 anyE b r n D left cnt := by
  have h1 := h.owns.lt
  have h2 := h.lt
  obtain ⟨es, clock, since, seen, c0, hb', F, hs, hD, hr', rest⟩ := h
  exact ⟨es, clock, since, seen, c0, (hc.block b h1 hb).trans hb', F, hs, hD, (hc.block r h2 hr).trans hr', rest⟩
def CpyPost (sv : Value) (L : List Ent) (w : World) (en : Ending) (w' : World) : Prop :=
  ∃ g S, en = .returned (.pointer (some ⟨g, 0, none⟩)) ∧ TrAt w' w.heap.size g sv S L ∧ (∀ k, S k → w.heap.size ≤ k) ∧ w.heap.size ≤ g ∧ Below w.heap.size w w'
def CpK (wr : World) (B : Nat) (KF : List UInt8 → List Av) (f5 : List UInt8 → Option Value) : Prop :=
  ∀ s v, f5 s = some v → wr.ownsRow B 86 2 v (KF s).length (avc (KF s)) ∧ ∀ t u, s ≠ t → f5 t = some u → Apart v u
theorem cpK_put {w w7 : World} {B : Nat} {KF : List UInt8 → List Av} {f5 : List UInt8 → Option Value} {s : List UInt8} {v : Value} (h : CpK w B KF f5) {S : Nat → Prop} (hc : Chg S w w7) (hs : ∀ k, S k → ∃ es c, w.heap[k]? = some (.map es c)) (hv : w7.ownsRow w.heap.size 86 2 v (KF s).length (avc (KF s))) (hB : B ≤ w.heap.size) :
    CpK w7 B KF (upF f5 s (some v)) := by
  have keep : ∀ t u, f5 t = some u → w7.ownsRow B 86 2 u (KF t).length (avc (KF t)) := fun t u hu => ownsRow_chg (h t u hu).1 hc (fun k hk hS => by
    obtain ⟨es, c, hm⟩ := hs k hS
    rcases (h t u hu).1.2 with ⟨e, _⟩ | ⟨g', cap, cur, e, _, hg', _⟩
    · rw [e] at hk; simp [Value.ownBlock] at hk
    · rw [e] at hk
      simp [Value.ownBlock] at hk
      subst hk
      rw [hm] at hg'; cases hg')
  have ap : ∀ t u, f5 t = some u → Apart v u := fun t u hu k h1 h2 => by
    have := (hv.lt k h1).1
    have := ((h t u hu).1.lt k h2).2
    omega
  intro t u hu
  unfold upF at hu
  by_cases hts : t = s
  · rw [if_pos hts] at hu
    injection hu with hu
    subst hu hts
    refine ⟨ownsRow_base hv hB, fun t' u' hne hu' => ?_⟩
    unfold upF at hu'
    rw [if_neg (Ne.symm hne)] at hu'
    exact ap t' u' hu'
  · rw [if_neg hts] at hu
    refine ⟨keep t u hu, fun t' u' hne hu' => ?_⟩
    unfold upF at hu'
    by_cases hts' : t' = s
    · rw [if_pos hts'] at hu'
      injection hu' with hu'
      subst hu'
      exact (ap t u hu).symm
    · rw [if_neg hts'] at hu'
      exact (h t u hu).2 t' u' hne hu'
theorem cpy_fin {w wr : World} {g2 e2 b2 n5 : Nat} {sv : Value} {L : List Ent} {fe f5 : List UInt8 → Option Value} {F : List UInt8 → Value} (hg2 : wr.heap[g2]? = some (.cells #[sv, .map (some e2), .map (some b2)] 69 (0, 0))) (hb : w.heap.size ≤ e2 ∧ w.heap.size ≤ b2 ∧ e2 ≠ b2 ∧ w.heap.size ≤ g2) (hbel : Below w.heap.size w wr)
    (he2 : MvAt wr e2 fe L.length) (h2 : EntIs w fe L) (hm5 : MvAt wr b2 f5 n5) (hf5 : ∀ s, (f5 s).isSome = (kidF (kidN L) F s).isSome) (hk : CpK wr w.heap.size (kidN L) f5) :
    CpyPost sv L w (.returned (.pointer (some ⟨g2, 0, none⟩))) wr := by
  have h0 : ∀ p, kidN L p = [] → f5 p = none := fun p hp => by
    have := hf5 p
    unfold kidF at this
    rw [if_pos hp] at this
    cases hq : f5 p with
    | none => rfl
    | some v => rw [hq] at this; cases this
  have h1 : ∀ p, kidN L p ≠ [] → ∃ v, f5 p = some v := fun p hp => by
    have := hf5 p
    unfold kidF at this
    rw [if_neg hp] at this
    cases hq : f5 p with
    | none => rw [hq] at this; cases this
    | some v => exact ⟨v, rfl⟩
  obtain ⟨G, hG⟩ : ∃ G : List UInt8 → Value, ∀ p, G p = (f5 p).getD (.slice none 0 0) := ⟨_, fun _ => rfl⟩
  have hkf : kidF (kidN L) G = f5 := by
    funext p
    unfold kidF
    by_cases hp : kidN L p = []
    · rw [if_pos hp, h0 p hp]
    · obtain ⟨v, hv⟩ := h1 p hp
      rw [if_neg hp, hG, hv]; rfl
  have hap : ∀ p q, p ≠ q → Apart (G p) (G q) := fun p q hpq k e1 e2 => by
    rw [hG] at e1 e2
    cases hq1 : f5 p with
    | none => rw [hq1] at e1; simp [Value.ownBlock] at e1
    | some v =>
      cases hq2 : f5 q with
      | none => rw [hq2] at e2; simp [Value.ownBlock] at e2
      | some u =>
        rw [hq1] at e1
        rw [hq2] at e2
        exact (hk p v hq1).2 q u hpq hq2 k e1 e2
  have hT : TrAt wr w.heap.size g2 sv (trS e2 b2 G) L := by
    refine ⟨e2, b2, fe, _, n5, rfl, hg2, ⟨hb.1, hb.2.1, hb.2.2.1, hbel.size⟩, he2, ?_, by rw [hkf]; exact hm5, fun p => ⟨fun hp => by rw [hG, h0 p hp]; rfl, ?_, fun q hq => hap p q hq⟩⟩
    · intro s
      refine ⟨(h2 s).1, fun e he => ?_⟩
      obtain ⟨v, q1, q2⟩ := (h2 s).2 e he
      exact ⟨v, q1, paAt_below q2 hbel⟩
    · rw [hG]
      by_cases hp : kidN L p = []
      · rw [h0 p hp, hp]
        exact World.ownsRow_nil _ _ _ _
      · obtain ⟨v, hv⟩ := h1 p hp
        rw [hv]
        exact (hk p v hv).1
  exact ⟨g2, _, rfl, hT, fun k hk => (trAt_isTr hT k hk).2.1, hb.2.2.2, hbel⟩
theorem pa_slice {w : World} {v : Value} {A : List Atr} (h : PaAt w v A) : ∃ a n c, v = .slice a n c := by
  obtain ⟨Lq, B, _, h3⟩ := h
  obtain ⟨a, c, e⟩ := ownsRow_slice h3
  exact ⟨a, _, c, e⟩
set_option maxHeartbeats 6400000 in
set_option maxRecDepth 100000 in
theorem dtcopy_any (B g : Nat) (sp : Option Addr) (S : Nat → Prop) (L : List Ent) (w : World) (h : TrAt w B g (.pointer sp) S L) (hT : TrL L) (hl : L.length ≤ 1024) :
    Calls Tryz.prog 13 #[.pointer (some ⟨g, 0, none⟩)] w (CpyPost (.pointer sp) L w) := by
  obtain ⟨eb, bb, fe, F, nb, hS, hg, ⟨hB1, hB2, hne, hB3⟩, h1, h2, h3, h4⟩ := h
  have zg := obj_lt hg
  have zeb := mvAt_lt h1
  have zbb := mvAt_lt h3
  have hnb := tr_nb h3
  have HNw := Lib.hid (dtnew_any sp w)
  obtain ⟨c0, c1, c2⟩ := obj3 hg
  have HG := Lib.hid hg
  have HTr := Lib.hid (And.intro h1 (And.intro h2 (And.intro h3 h4)))
  have HT := Lib.hid hT
  clear hg h1 h2 h3 h4 hT hS hB1 hB2 hB3
  go_enter Tryz.func13, Tryz.ntmps13
  go_wp2_with fail
  refine HNw.out.mono ?_
  rintro en w2 ⟨g2, S2, rfl, htr, hS2, hg2, hb2, hmp⟩
  obtain ⟨e2, b2, fe2, F2, nb2, rfl, ho2, ⟨hB1, hB2, hne2, hB3⟩, k1, k2, k3, k4⟩ := htr
  have hfe2 : fe2 = fun _ => none := by
    funext s
    exact (k2 s).1 rfl
  have hkf2 : kidF (kidN []) F2 = fun _ => none := by
    funext s
    unfold kidF
    exact if_pos rfl
  have hnb2 : nb2 = 0 := by have := tr_nb k3; simpa using this
  rw [hfe2] at k1
  rw [hkf2, hnb2] at k3
  have HN := Lib.hid (And.intro ho2 (And.intro (And.intro hB1 (And.intro hB2 (And.intro hne2 hg2))) (And.intro (show ¬ g2 = e2 from fun e => by obtain ⟨es, c, hm⟩ := mvAt_map k1; rw [e, hm] at ho2; cases ho2) (And.intro (show ¬ g = e2 by omega) (And.intro (show ¬ g2 = b2 from fun e => by obtain ⟨es, c, hm⟩ := mvAt_map k3; rw [e, hm] at ho2; cases ho2) (And.intro hb2 (And.intro k1 k3)))))))
  have zg2 := obj_lt ho2
  obtain ⟨a0, a1, _⟩ := obj3 ho2
  obtain ⟨b0, b1, _⟩ := obj3 (obj_below HG.out hb2 zg)
  have zgo := zg
  have zg := Nat.lt_of_lt_of_le zg hb2.size
  have HMc := Lib.hid (fun w' (hb : Below w2.heap.size w2 w') => dtmcopy_any e2 eb L.length fe w' (mvAt_block k1 (hb.block e2 (mvAt_lt k1))) (mvAt_block HTr.out.1 ((hb2.trans (hb.mono hb2.size)).block eb zeb)) (by omega) (by omega) (fun s hs => by
      rw [ent_none HTr.out.2.1] at hs
      obtain ⟨x, hx, rfl⟩ := hasE_iff.1 hs
      obtain ⟨D, hD⟩ := nm_some (HT.out.nm x hx)
      have := nr_some hD
      rw [this.1]; have := this.2.2.2; omega) (fun s v hv => by
      have hs : (fe s).isSome = true := by rw [hv]; rfl
      rw [ent_none HTr.out.2.1, ← lkE_has] at hs
      obtain ⟨e, he⟩ := Option.isSome_iff_exists.1 hs
      obtain ⟨u, q1, q2⟩ := (HTr.out.2.1 s).2 e he
      obtain ⟨a, n, c, rfl⟩ := pa_slice q2
      rw [hv] at q1
      injection q1 with q1
      exact ⟨_, a, n, c, q1⟩))
  clear hS2 hg2 hb2 hmp ho2 hB1 hB2 hB3 hne2 k1 k2 k3 k4 hfe2 hkf2 hnb2 c0 c1 c2 a0 b0
  go_wp2
  refine wp_region_noPanic ?_
  refine wp_region_held_drew (S := fun w' => w'.cell? ⟨g2, 1, none⟩ = some (.map (some e2)) ∧ w'.cell? ⟨g, 1, none⟩ = some (.map (some eb))) (by kernel_rfl) ?_ (fun hHeld => ?_)
  · exact ⟨a1, b1⟩
  refine wpAnyH_take (i := 0) (v := ?vu0) rfl (by kernel_rfl) (by kernel_rfl) (by kernel_rfl) (fun _ _ _ h => h) (Or.inl ⟨by rfl, ?yu0⟩) (by assumption) ?ru0
  case yu0 => (intro w' hSw; (try dsimp only at hSw); go_simp; with_reducible rfl)
  try simp only [List.getElem_toArray, List.getElem_cons_zero, List.getElem_cons_succ, Act.put, List.setIfInBounds_toArray, List.set_cons_zero, List.set_cons_succ]
  refine wpAnyH_take (i := 1) (v := ?vu1) rfl (by kernel_rfl) (by kernel_rfl) (by kernel_rfl) (fun _ _ _ h => h) (Or.inl ⟨by rfl, ?yu1⟩) (by assumption) ?ru1
  case yu1 => (intro w' hSw; (try dsimp only at hSw); go_simp; with_reducible rfl)
  try simp only [List.getElem_toArray, List.getElem_cons_zero, List.getElem_cons_succ, Act.put, List.setIfInBounds_toArray, List.set_cons_zero, List.set_cons_succ]
  refine wpAnyH_take (i := 2) (v := ?vu2) rfl (by kernel_rfl) (by kernel_rfl) (by kernel_rfl) (fun _ _ _ h => h) (Or.inl ⟨by rfl, ?yu2⟩) (by assumption) ?ru2
  case yu2 => (intro w' hSw; (try dsimp only at hSw); go_simp; with_reducible rfl)
  try simp only [List.getElem_toArray, List.getElem_cons_zero, List.getElem_cons_succ, Act.put, List.setIfInBounds_toArray, List.set_cons_zero, List.set_cons_succ]
  refine wpAnyH_take (i := 3) (v := ?vu3) rfl (by kernel_rfl) (by kernel_rfl) (by kernel_rfl) (fun _ _ _ h => h) (Or.inl ⟨by rfl, ?yu3⟩) (by assumption) ?ru3
  case yu3 => (intro w' hSw; (try dsimp only at hSw); go_simp; with_reducible rfl)
  try simp only [List.getElem_toArray, List.getElem_cons_zero, List.getElem_cons_succ, Act.put, List.setIfInBounds_toArray, List.set_cons_zero, List.set_cons_succ]
  refine wpAnyH_take (i := 4) (v := ?vu4) rfl (by kernel_rfl) (by kernel_rfl) (by kernel_rfl) (fun _ _ _ h => h) (Or.inl ⟨by rfl, ?yu4⟩) (by assumption) ?ru4
  case yu4 => (intro w' hSw; (try dsimp only at hSw); go_simp; with_reducible rfl)
  try simp only [List.getElem_toArray, List.getElem_cons_zero, List.getElem_cons_succ, Act.put, List.setIfInBounds_toArray, List.set_cons_zero, List.set_cons_succ]
  refine wpAnyH_take (i := 5) (v := ?vu5) rfl (by kernel_rfl) (by kernel_rfl) (by kernel_rfl) (fun _ _ _ h => h) (Or.inl ⟨by rfl, ?yu5⟩) (by assumption) ?ru5
  case yu5 => (intro w' hSw; (try dsimp only at hSw); go_simp; with_reducible rfl)
  try simp only [List.getElem_toArray, List.getElem_cons_zero, List.getElem_cons_succ, Act.put, List.setIfInBounds_toArray, List.set_cons_zero, List.set_cons_succ]
  refine wpAnyH_take (i := 6) (v := ?vu6) rfl (by kernel_rfl) (by kernel_rfl) (by kernel_rfl) (fun _ _ _ h => h) (Or.inl ⟨by rfl, ?yu6⟩) (by assumption) ?ru6
  case yu6 => (intro w' hSw; (try dsimp only at hSw); go_simp; with_reducible rfl)
  try simp only [List.getElem_toArray, List.getElem_cons_zero, List.getElem_cons_succ, Act.put, List.setIfInBounds_toArray, List.set_cons_zero, List.set_cons_succ]
  refine wpAnyH_take (i := 7) (v := ?vu7) rfl (by kernel_rfl) (by kernel_rfl) (by kernel_rfl) (fun _ _ _ h => h) (Or.inl ⟨by rfl, ?yu7⟩) (by assumption) ?ru7
  case yu7 => (intro w' hSw; (try dsimp only at hSw); go_simp; with_reducible rfl)
  try simp only [List.getElem_toArray, List.getElem_cons_zero, List.getElem_cons_succ, Act.put, List.setIfInBounds_toArray, List.set_cons_zero, List.set_cons_succ]
  refine wpAnyH_ready (rs := [8]) (by kernel_rfl) (by simp) ?_
  refine AllReadyH.cons (o := _) rfl (fun KR hKR => ?cu8) ?nu8
  case nu8 => exact AllReadyH.nil
  go_simp
  go_at_call 32
  with_reducible refine (HMc.out _ (by first | exact (Below.refl _ w2).drew | exact Below.refl _ w2)).mono ?_
  rintro en w4 ⟨rfl, hm4, hc4⟩
  have hc4 : Chg (fun k => k = e2) w2 w4 := (by first | exact hc4 | exact (Chg.ofBelow (Below.refl _ w2).drew).trans hc4 (fun _ _ h => h))
  have a2 := (cell_chgV hc4 (p := ⟨g2, 1, none⟩) zg2 HN.out.2.2.1).trans a1
  have b2' := (cell_chgV hc4 (p := ⟨g, 1, none⟩) zg HN.out.2.2.2.1).trans b1
  have H4 := Lib.hid (And.intro hm4 hc4)
  clear hm4 hc4
  go_wp2_with fail
  refine hKR.out _ _ ?_ (fun hHeld => ?_)
  · exact ⟨a2, b2'⟩
  clear hKR KR
  try simp only [List.getElem_toArray, List.getElem_cons_zero, List.getElem_cons_succ, Act.put, List.setIfInBounds_toArray, List.set_cons_zero, List.set_cons_succ]
  refine wpAnyH_done (by kernel_rfl) ?_ _
  refine NoPanic.normal ?_
  have hbel4 : Below w.heap.size w w4 := HN.out.2.2.2.2.2.1.trans (H4.out.2.toBelow HN.out.2.2.2.2.2.1.size (fun k _ hk => by have hk : k = e2 := hk; rw [hk]; exact HN.out.2.1.1))
  obtain ⟨Ds, hs1, hs2, hs3⟩ := mvAt_block HTr.out.2.2.1 (hbel4.block bb zbb)
  have HDs := Lib.hid (And.intro hs2 hs3)
  have HB4 := Lib.hid hbel4
  have b4 := (obj3 (obj_below HG.out hbel4 zgo)).2.2
  have hz4 := Nat.lt_of_lt_of_le zbb hbel4.size
  clear hs2 hs3 hbel4 a1 b1 a2 b2'
  go_wp2_with (first
    | (at_range; refine wpList_range_own _ rfl _ 67 rfl 9 83 snlaw Tryz.underlying67 anyE bb nb _ rfl hs1 ?_; intro w0 hrg0 hg0 hs0)
    | go_in)
  go_frame
  have H0 := Lib.hid (And.intro hrg0 hg0)
  clear hrg0 hg0 b4
  go_loopw [4, 5] (fun _ _ wr => ∃ (left : Lit → Bool) (cnt : Nat) (f5 : List UInt8 → Option Value) (n5 : Nat), wr.ranges Tryz.prog 9 anyE bb w4.heap.size nb Ds left cnt ∧ cnt ≤ Maps.size Ds ∧
      MvAt wr b2 f5 n5 ∧ n5 + cnt ≤ Maps.size Ds ∧ (∀ s, (f5 s).isSome = ((kidF (kidN L) F s).isSome && !left (.string s))) ∧ CpK wr w.heap.size (kidN L) f5 ∧ Chg (fun k => k = b2 ∨ k = w4.heap.size) w4 wr)
    (fun _ _ wr => wr.rangeLeft bb w4.heap.size)
  case atStart =>
    refine ⟨_, _, _, 0, H0.out.1, Nat.le_refl _, mvAt_block HN.out.2.2.2.2.2.2.2 (((Chg.ofGrown H0.out.2).block b2 (Nat.lt_of_lt_of_le (mvAt_lt HN.out.2.2.2.2.2.2.2) H4.out.2.size) (by simp)).trans (H4.out.2.block b2 (mvAt_lt HN.out.2.2.2.2.2.2.2) (fun e => HN.out.2.1.2.2.1 e.symm))), by omega, fun s => ?_, fun s v hv => (by cases hv), (Chg.ofGrown H0.out.2).mono (fun k _ e => by cases e)⟩
    have := HDs.out.1.1 s
    rw [this]
    cases (kidF (kidN L) F s).isSome <;> rfl
  case round =>
    obtain ⟨left, cnt, f5, n5, hrg, hcs, hm5, hn5, hf5, hk5, hc5⟩ := hrel
    have H := Lib.hid (And.intro hcs (And.intro hm5 (And.intro hn5 (And.intro hf5 (And.intro hk5 hc5)))))
    have HRg := Lib.hid hrg
    clear hcs hm5 hn5 hf5 hk5 hc5
    go_wp2_with (first
      | (at_next; refine wpList_next_ranges _ rfl _ rfl 9 snlaw anyE id id (fun key _ _ => ⟨key, rfl⟩) (fun v _ _ => ⟨v, rfl⟩) bb w4.heap.size nb _ _ _ rfl hrg ?_ ?_)
      | go_in)
    · intro hc0 hl0
      have H1 := Lib.hid hl0
      clear hc0 hl0 hrg
      go_wp2
      go_ret
      obtain ⟨hcs, hm5, hn5, hf5, hk5, hc5⟩ := H.out
      have hbel : Below w.heap.size w wr := HB4.out.trans (hc5.toBelow HB4.out.size (fun k _ hk => by rcases hk with e | e; rw [e]; exact HN.out.2.1.2.1; rw [e]; exact HB4.out.size))
      have hne4 : ∀ k, k < w4.heap.size → k ≠ b2 → wr.heap[k]? = w4.heap[k]? := fun k hk hkb => hc5.block k hk (by rintro (e | e); exact hkb e; omega)
      have zg4 : g2 < w4.heap.size := Nat.lt_of_lt_of_le zg2 H4.out.2.size
      refine cpy_fin (e2 := e2) (b2 := b2) (F := F) ((hne4 g2 zg4 HN.out.2.2.2.2.1).trans (obj_chg HN.out.1 H4.out.2 HN.out.2.2.1)) HN.out.2.1 hbel (mvAt_block H4.out.1 (hne4 e2 (mvAt_lt H4.out.1) HN.out.2.1.2.2.1)) HTr.out.2.1 hm5 (fun s => ?_) hk5
      rw [hf5 s, H1.out]; simp
    · intro x c kl yd yp w5 cnt1 hkey hlx hv hat hrg1 hlt hg1 hs1' hen
      have hkey : keyOf Tryz.prog 9 x = some kl := hkey
      have hv : anyE c = some (yd, yp) := hv
      have hkn : ∀ s, (kidF (kidN L) F s).isSome = true → s.length ≤ 140737488355328 := fun s hs => by
        unfold kidF at hs
        split at hs
        · cases hs
        · rename_i hne
          cases hq : kidN L s with
          | nil => exact absurd hq hne
          | cons c K =>
            obtain ⟨e, he, _, hp⟩ := kid_mem (show c ∈ kidN L s by rw [hq]; simp)
            obtain ⟨p2, l, q1, _, _, D, hD⟩ := nm_par (HT.out.nm e he)
            rw [hp] at q1
            obtain ⟨rfl, _⟩ := Prod.mk.inj q1
            have := nr_some hD
            rw [this.1]; have := this.2.2.2; omega
      obtain ⟨s, rfl, rfl, hfs⟩ := mv_key HDs.out.1 hkn hkey hv hat
      have hsl := hkn s (by rw [hfs]; rfl)
      have hks : kidN L s ≠ [] ∧ F s = c := by
        unfold kidF at hfs
        split at hfs
        · cases hfs
        · rename_i hne
          exact ⟨hne, Option.some.inj hfs⟩
      obtain ⟨hks, rfl⟩ := hks
      have hrow := (HTr.out.2.2.2 s).2.1
      obtain ⟨va, vc, hva⟩ := ownsRow_slice hrow
      obtain ⟨hcs, hm5, hn5, hf5, hk5, hc5⟩ := H.out
      have hgc : Chg (fun k => k = w4.heap.size) wr w5 := (Chg.ofGrown hg1).mono (fun k _ e => Option.some.inj e)
      have hc45 : Chg (fun k => k = b2 ∨ k = w4.heap.size) w4 w5 := hc5.trans hgc (fun k _ e => .inr e)
      have hbel : Below w.heap.size w w5 := HB4.out.trans (hc45.toBelow HB4.out.size (fun k _ hk => by rcases hk with e | e; rw [e]; exact HN.out.2.1.2.1; rw [e]; exact HB4.out.size))
      have hb2z : b2 < w4.heap.size := Nat.lt_of_lt_of_le (mvAt_lt HN.out.2.2.2.2.2.2.2) H4.out.2.size
      have hb2n : ¬ b2 = w4.heap.size := by omega
      have hCl := Lib.hid (fun w' (hb : Below w5.heap.size w5 w') => dtclone_any (kidN L s) (F s) B w' (ownsRow_below hrow (hbel.trans (hb.mono hbel.size))) hks (by have := kid_len L s; omega))
      rw [hva] at hv hCl
      have HCl := hCl
      clear hCl
      have hk5' : CpK w5 w.heap.size (kidN L) f5 := fun t u hu => ⟨ownsRow_chg (hk5 t u hu).1 hgc (fun k hk e => by
        have e : k = w4.heap.size := e
        rcases (hk5 t u hu).1.2 with ⟨e', _⟩ | ⟨g', cap, cur, e', _, hg', _⟩
        · rw [e'] at hk; simp [Value.ownBlock] at hk
        · rw [e'] at hk
          simp [Value.ownBlock] at hk
          subst hk
          obtain ⟨es, clock, since, seen, c0, _, _, _, _, hr, _⟩ := HRg.out
          rw [← e, hg'] at hr; cases hr), (hk5 t u hu).2⟩
      have hzz := hc5.size
      have H5 := Lib.hid (And.intro hk5' (And.intro (mvAt_chg hm5 hgc hb2n) (And.intro (show n5 ≤ 1024 by have := HDs.out.2; have := hn5; omega) (And.intro hn5 (And.intro hf5 (And.intro hc45 hbel))))))
      have HR5 := Lib.hid (And.intro hrg1 (And.intro hlt (And.intro hlx hcs)))
      have hen' : (Instr.entry (.pointer (some ⟨w4.heap.size, 0, none⟩))).run Tryz.prog w5 = .ok (.tuple #[.string ⟨s.toArray⟩, .slice va (kidN L s).length vc]) w5 := by rw [← hva]; exact hen
      have hg5 : w5.heap[g2]? = some (.cells #[.pointer sp, .map (some e2), .map (some b2)] 69 (0, 0)) := by
        have zg4 : g2 < w4.heap.size := Nat.lt_of_lt_of_le zg2 H4.out.2.size
        exact (hc45.block g2 zg4 (by rintro (e | e); exact HN.out.2.2.2.2.1 e; omega)).trans (obj_chg HN.out.1 H4.out.2 HN.out.2.2.1)
      have k2 := (obj3 hg5).2.2
      have zgr := obj_lt hg5
      have HVA := Lib.hid (And.intro hva hks)
      clear hcs hm5 hn5 hf5 hk5 hc5 hgc hc45 hbel hk5' hrg hrg1 hlt hlx hkey hv hat hg1 hen hkn hfs hks hrow hg5 hva hzz hs1'
      go_wp2
      refine wp_region_noPanic ?_
      refine wp_region_held_drew (S := fun w' => w'.cell? ⟨g2, 2, none⟩ = some (.map (some b2))) (by kernel_rfl) ?_ (fun hHeld => ?_)
      · exact k2
      refine wpAnyH_take (i := 0) (v := ?vx0) rfl (by kernel_rfl) (by kernel_rfl) (by kernel_rfl) (fun _ _ _ h => h) (Or.inl ⟨by rfl, ?yx0⟩) (by assumption) ?rx0
      case yx0 => (intro w' hSw; (try dsimp only at hSw); go_simp; with_reducible rfl)
      try simp only [List.getElem_toArray, List.getElem_cons_zero, List.getElem_cons_succ, Act.put, List.setIfInBounds_toArray, List.set_cons_zero, List.set_cons_succ]
      refine wpAnyH_take (i := 1) (v := ?vx1) rfl (by kernel_rfl) (by kernel_rfl) (by kernel_rfl) (fun _ _ _ h => h) (Or.inl ⟨by rfl, ?yx1⟩) (by assumption) ?rx1
      case yx1 => (intro w' hSw; (try dsimp only at hSw); go_simp; with_reducible rfl)
      try simp only [List.getElem_toArray, List.getElem_cons_zero, List.getElem_cons_succ, Act.put, List.setIfInBounds_toArray, List.set_cons_zero, List.set_cons_succ]
      refine wpAnyH_take (i := 2) (v := ?vx2) rfl (by kernel_rfl) (by kernel_rfl) (by kernel_rfl) (fun _ _ _ h => h) (Or.inl ⟨by rfl, ?yx2⟩) (by assumption) ?rx2
      case yx2 => (intro w' hSw; (try dsimp only at hSw); go_simp; with_reducible rfl)
      try simp only [List.getElem_toArray, List.getElem_cons_zero, List.getElem_cons_succ, Act.put, List.setIfInBounds_toArray, List.set_cons_zero, List.set_cons_succ]
      refine wpAnyH_take (i := 3) (v := ?vx3) rfl (by kernel_rfl) (by kernel_rfl) (by kernel_rfl) (fun _ _ _ h => h) (Or.inl ⟨by rfl, ?yx3⟩) (by assumption) ?rx3
      case yx3 => (intro w' hSw; (try dsimp only at hSw); go_simp; with_reducible rfl)
      try simp only [List.getElem_toArray, List.getElem_cons_zero, List.getElem_cons_succ, Act.put, List.setIfInBounds_toArray, List.set_cons_zero, List.set_cons_succ]
      refine wpAnyH_take (i := 4) (v := ?vx4) rfl (by kernel_rfl) (by kernel_rfl) (by kernel_rfl) (fun _ _ _ h => h) (Or.inl ⟨by rfl, ?yx4⟩) (by assumption) ?rx4
      case yx4 => (intro w' hSw; (try dsimp only at hSw); go_simp; with_reducible rfl)
      try simp only [List.getElem_toArray, List.getElem_cons_zero, List.getElem_cons_succ, Act.put, List.setIfInBounds_toArray, List.set_cons_zero, List.set_cons_succ]
      refine wpAnyH_take (i := 5) (v := ?vx5) rfl (by kernel_rfl) (by kernel_rfl) (by kernel_rfl) (fun _ _ _ h => h) (Or.inl ⟨by rfl, ?yx5⟩) (by assumption) ?rx5
      case yx5 => (intro w' hSw; (try dsimp only at hSw); go_simp; with_reducible rfl)
      try simp only [List.getElem_toArray, List.getElem_cons_zero, List.getElem_cons_succ, Act.put, List.setIfInBounds_toArray, List.set_cons_zero, List.set_cons_succ]
      refine wpAnyH_ready (rs := [6]) (by kernel_rfl) (by simp) ?_
      refine AllReadyH.cons (o := _) rfl (fun KR hKR => ?cx6) ?nx6
      case nx6 => exact AllReadyH.nil
      go_simp
      go_at_call 33
      with_reducible refine (HCl.out _ (by first | exact (Below.refl _ w5).drew | exact Below.refl _ w5)).mono ?_
      rintro en w6 ⟨na, nc, rfl, hr6, hb6⟩
      have hr6 : w6.ownsRow w5.heap.size 86 2 (.slice na (kidN L s).length nc) (kidN L s).length (avc (kidN L s)) := (by first | exact hr6 | exact ownsRow_base hr6 (Nat.le_refl _))
      have hb6 : Below w5.heap.size w5 w6 := (by first | exact (Below.refl _ w5).drew.trans hb6 | exact hb6)
      have k3 := (hb6.cell (p := ⟨g2, 2, none⟩) zgr).trans k2
      have hm6 := mvAt_block H5.out.2.1 (hb6.block b2 (mvAt_lt H5.out.2.1))
      obtain ⟨N6, hN6⟩ : ∃ N6, (kidN L s).length = N6 := ⟨_, rfl⟩
      rw [hN6] at hr6 ⊢
      have HN6 := Lib.hid hN6
      clear hN6
      have H6 := Lib.hid (And.intro hr6 (And.intro hb6 hm6))
      clear hr6 hb6 hm6
      go_wp2_with fail
      refine hKR.out _ _ ?_ (fun hHeld => ?_)
      · exact k3
      clear hKR KR
      try simp only [List.getElem_toArray, List.getElem_cons_zero, List.getElem_cons_succ, Act.put, List.setIfInBounds_toArray, List.set_cons_zero, List.set_cons_succ]
      refine wpAnyH_ready (rs := [7]) (by kernel_rfl) (by simp) ?_
      refine AllReadyH.cons (o := _) rfl (fun KR hKR => ?cx7) ?nx7
      case nx7 => exact AllReadyH.nil
      refine step_mvPut rfl (.tmp 35) (.tmp 36) (.tmp 38) 67 83 rfl Tryz.underlying67 b2 n5 f5 rfl H6.out.2.2 (by have := H5.out.2.2.1; unfold maxLen; omega) s (.slice na N6 nc) rfl rfl hsl ?_
      intro w7 n7 hm7 hn7 ht7
      have k4 := (cell_chgV (chg_turned ht7) (p := ⟨g2, 2, none⟩) (Nat.lt_of_lt_of_le zgr H6.out.2.1.size) HN.out.2.2.2.2.1).trans k3
      have H7 := Lib.hid (And.intro hm7 (And.intro hn7 ht7))
      clear hm7 hn7 ht7
      refine hKR.out _ _ ?_ (fun hHeld => ?_)
      · exact k4
      clear hKR KR
      try simp only [List.getElem_toArray, List.getElem_cons_zero, List.getElem_cons_succ, Act.put, List.setIfInBounds_toArray, List.set_cons_zero, List.set_cons_succ]
      refine wpAnyH_done (by kernel_rfl) ?_ _
      refine NoPanic.normal ?_
      go_wp2
      refine ⟨?_, ?_⟩
      · obtain ⟨q1, q2, q3, q4, q5, q6, q7⟩ := H5.out
        have hc67 := chg_turned H7.out.2.2
        have hc57 : Chg (fun k => k = b2) w5 w7 := (Chg.ofBelow H6.out.2.1).trans hc67 (fun _ _ e => e)
        refine ⟨_, cnt1, _, n7, ranges_chg HR5.out.1 hc57 (fun e => by have e : bb = b2 := e; have := HN.out.2.1.2.1; omega) (fun e => hb2n e.symm), by have := HR5.out.2.2.2; have := HR5.out.2.1; omega, H7.out.1, ?_, fun t => ?_, cpK_put q1 hc57 (fun k e => by have e : k = b2 := e; rw [e]; exact mvAt_map q2) ?_ q7.size, q6.trans hc57 (fun _ _ e => .inl e)⟩
        · have := H7.out.2.1
          unfold NPut at this
          have h9 := HR5.out.2.1
          have h8 := q4
          split at this <;> omega
        · unfold upF
          have hss : (Lit.string t).sameKey (.string s) = (t == s) := rfl
          rw [hss]
          by_cases hts : t = s
          · subst hts
            have : (kidF (kidN L) F t).isSome = true := by unfold kidF; rw [if_neg HVA.out.2]; rfl
            rw [if_pos rfl, this]; simp
          · have hbf : (t == s) = false := by simpa using hts
            rw [if_neg hts, q5 t, hbf]; simp
        · have := H6.out.1
          rw [← HN6.out] at this
          exact ownsRow_chg (HN6.out ▸ H6.out.1) hc67 (fun k hk e => by
            have e : k = b2 := e
            have := (H6.out.1.lt k (HN6.out ▸ hk)).1
            have := mvAt_lt q2
            omega)
      · rw [(ranges_chg HR5.out.1 ((Chg.ofBelow H6.out.2.1).trans (chg_turned H7.out.2.2) (fun _ _ e => e)) (fun e => by have e : bb = b2 := e; have := HN.out.2.1.2.1; omega) (fun e => hb2n e.symm)).left_eq, HRg.out.left_eq]; exact HR5.out.2.1
end Go.Proofs.YtbmnpjkcomcboaaGreatDoor
