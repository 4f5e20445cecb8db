/- The normal form of a name's text, for all texts. -/
import Derived.Test.YtlopmppiihhnnaaGreatDoorDnAB
import Derived.Test.YtlopmppiihhnnaaGreatDoorDnACD
import Derived.Test.YtlopmppiihhnnaaGreatDoorDnH
namespace Go.Proofs.YtlopmppiihhnnaaGreatDoor
set_option linter.unusedSimpArgs false
set_option linter.unusedVariables false
open Go Go.RowKit Go.Proofs.BerK Go.Proofs.MemK Go.Proofs.UtfK

/-- A pair, a part and a name in their normal form. -/
def nmA (p : Av) : Av := (lowL p.1, foldL p.2)
def nmR (r : List Av) : List Av := srtR (r.map nmA)
def noD (s : List UInt8) : List UInt8 × Nat := if (rdD s).2 ≠ 0 then ([], (rdD s).2) else puD ((rdD s).1.map nmR)
theorem noD_err {s : List UInt8} {D : List (List Av)} {n : Nat} (h : rdD s = (D, n)) (hn : n ≠ 0) : noD s = ([], n) := by unfold noD; rw [h]; exact if_pos hn
theorem noD_ok {s : List UInt8} {D : List (List Av)} (h : rdD s = (D, 0)) : noD s = puD (D.map nmR) := by unfold noD; rw [h]; exact if_neg (by simp)
theorem rdD_facts {s : List UInt8} {D : List (List Av)} (h : rdD s = (D, 0)) : D.length ≤ 32 ∧ ∀ r ∈ D, prL r = true := by
  unfold rdD at h
  split at h
  · cases h
  · split at h
    · cases h; exact ⟨by simp, by simp⟩
    · split at h
      · cases h
      · split at h
        · cases h
        · split at h
          · rename_i h5; injection h with _ h2; exact absurd h2 h5
          · rename_i h5; injection h with h1 _; subst h1; exact ckD_facts (by omega)
/-- The name, its first i parts in their normal form. -/
def nmT (D : List (List Av)) (i : Nat) : List (List Av) := (D.take i).map nmR ++ D.drop i
theorem nmT_zero (D : List (List Av)) : nmT D 0 = D := by simp [nmT]
theorem nmT_len (D : List (List Av)) (i : Nat) : (nmT D i).length = D.length := by simp [nmT]; omega
theorem nmT_end (D : List (List Av)) (i : Nat) (h : D.length ≤ i) : nmT D i = D.map nmR := by simp [nmT, List.take_of_length_le h, List.drop_of_length_le h]
theorem nmT_at (D : List (List Av)) (i : Nat) (h : i < D.length) (h' : i < (nmT D i).length) : (nmT D i)[i] = D[i] := by
  have e : (nmT D i)[i]? = D[i]? := by
    unfold nmT
    rw [List.getElem?_append_right (by simp; omega)]
    simp [show min i D.length = i by omega]
  rw [List.getElem?_eq_getElem h', List.getElem?_eq_getElem h] at e
  exact Option.some.inj e
theorem nmT_set (D : List (List Av)) (i : Nat) (h : i < D.length) : (nmT D i).set i (nmR D[i]) = nmT D (i + 1) := by
  have e : i - ((D.take i).map nmR).length = 0 := by simp; omega
  unfold nmT
  rw [List.set_append_right _ _ (by simp; omega), List.take_succ_eq_append_getElem h, List.map_append, e, drop_at D i h, List.set_cons_zero, List.append_assoc]
  rfl
/-- A part, its first j pairs in their normal form. -/
def nmJ (r : List Av) (j : Nat) : List Av := (r.take j).map nmA ++ r.drop j
theorem nmJ_zero (r : List Av) : nmJ r 0 = r := by simp [nmJ]
theorem nmJ_len (r : List Av) (i : Nat) : (nmJ r i).length = r.length := by simp [nmJ]; omega
theorem nmJ_end (r : List Av) (i : Nat) (h : r.length ≤ i) : nmJ r i = r.map nmA := by simp [nmJ, List.take_of_length_le h, List.drop_of_length_le h]
theorem nmJ_at (r : List Av) (i : Nat) (h : i < r.length) (h' : i < (nmJ r i).length) : (nmJ r i)[i] = r[i] := by
  have e : (nmJ r i)[i]? = r[i]? := by
    unfold nmJ
    rw [List.getElem?_append_right (by simp; omega)]
    simp [show min i r.length = i by omega]
  rw [List.getElem?_eq_getElem h', List.getElem?_eq_getElem h] at e
  exact Option.some.inj e
theorem nmJ_set (r : List Av) (i : Nat) (h : i < r.length) : (nmJ r i).set i (nmA r[i]) = nmJ r (i + 1) := by
  have e : i - ((r.take i).map nmA).length = 0 := by simp; omega
  unfold nmJ
  rw [List.set_append_right _ _ (by simp; omega), List.take_succ_eq_append_getElem h, List.map_append, e, drop_at r i h, List.set_cons_zero, List.append_assoc]
  rfl
theorem blk_cong {w : World} {B g : Nat} {gs : List Nat} {D D' : List (List Av)} {m : Nat} {e1 e2 : TypeId} (h : DnBlk w B g gs D m e1 e2) (e : D = D') : DnBlk w B g gs D' m e1 e2 := e ▸ h
theorem dnAt_none (w : World) : DnAt w (.slice none 0 0) [] := ⟨_, _, rfl, Nat.le_refl _, fun i h => by simp at h⟩

theorem cell_other2 {w : World} {a b : Nat} (h : a ≠ b) (i j k : Nat) (u v : Value) : ((w.setCell ⟨b, i, none⟩ u).setCell ⟨b, j, none⟩ v).cell? ⟨a, k, none⟩ = w.cell? ⟨a, k, none⟩ :=
  World.cell?_of_block (w := w) (a := ⟨a, k, none⟩) ((Below.heap_setCell _ ⟨b, j, none⟩ v a h).trans (Below.heap_setCell w ⟨b, i, none⟩ u a h))

set_option maxHeartbeats 6400000 in
set_option maxRecDepth 100000 in
theorem dnorm_any (s : ByteArray) (w : World) (he : ErrOk w) :
    Calls Tryz.prog 19 #[.string s] w (PutPost (noD s.data.toList) w) := by
  have HR := Lib.hid (dread_any s w he)
  have HE := Lib.hid (fun D n h => noD_err (s := s.data.toList) (D := D) (n := n) h)
  have HO := Lib.hid (fun D h => noD_ok (s := s.data.toList) (D := D) h)
  have HQ := Lib.hid (fun D h => rdD_facts (s := s.data.toList) (D := D) h)
  obtain ⟨P, hP⟩ : ∃ P, rdD s.data.toList = P := ⟨_, rfl⟩
  rw [hP] at HR HE HO HQ
  clear hP he
  obtain ⟨D, n⟩ := P
  go_enter Tryz.func19, Tryz.ntmps19
  go_wp2_with fail
  refine HR.out.mono ?_
  rintro e w2 (⟨h1, rfl, hb⟩ | ⟨h2, g, gs, rfl, hd, hb⟩)
  · by_cases hn : n = 0
    · subst hn
      have h1' : D = [] := h1
      subst h1'
      have H := Lib.hid (And.intro (HO.out _ rfl) hb)
      have HC := Lib.hid (dput_any (.slice none 0 0) [] w2 (dnAt_none w2))
      clear hb h1
      obtain ⟨pq, hpq⟩ : ∃ pq, puD [] = pq := ⟨_, rfl⟩
      rw [List.map_nil, hpq] at H
      rw [hpq] at HC
      clear hpq
      obtain ⟨X, m⟩ := pq
      go_wp2
      go_loopw [20] (fun v wr => v = .int .i64 0 ∧ wr = w2) (fun _ _ => 0)
      case atStart => exact ⟨rfl, rfl⟩
      case round =>
        obtain ⟨rfl, rfl⟩ := hrel
        go_wp2_with fail
        refine HC.out.mono ?_
        rintro e w3 ⟨rfl, hb3⟩
        have HB := Lib.hid (H.out.2.trans (hb3.mono H.out.2.size))
        clear hb3
        go_wp2
        go_ret2
        exact putPost_mk H.out.1 HB.out
    · have hq : ((n : Int) != 0) = true := by simp; omega
      have H := Lib.hid (And.intro (HE.out _ _ rfl hn) hb)
      clear hn hb h1
      go_wp2
      go_ret2
      exact putPost_mk H.out.1 H.out.2
  · have h2' : n = 0 := h2
    subst h2'
    obtain ⟨q1, q2⟩ := HQ.out D rfl
    have H := Lib.hid (And.intro (HO.out _ rfl) (And.intro hb (And.intro hd q2)))
    clear hb hd q2 h2
    obtain ⟨N, hN⟩ : ∃ N, D.length = N := ⟨_, rfl⟩
    unfold rowV
    rw [hN] at q1 ⊢
    go_wp2
    go_loopw [20] (fun v wr => ∃ i : Nat, i ≤ N ∧ v = .int .i64 (i : Nat) ∧ DnBlk wr w.heap.size g gs (nmT D i) 0 65 63 ∧ Below w.heap.size w wr) (fun v _ => N - (intOf v).toNat)
    case atStart => exact ⟨0, Nat.zero_le _, rfl, blk_cong H.out.2.2.1 (nmT_zero D).symm, H.out.2.1⟩
    case round =>
      obtain ⟨i, hi, rfl, hblk, hb⟩ := hrel
      by_cases hlt : i < N
      · have hil : (i : Int) < (N : Int) := by omega
        have hlT : i < (nmT D i).length := by rw [nmT_len]; omega
        have hlG : i < gs.length := by rw [hblk.len]; exact hlT
        have hTi : (nmT D i)[i] = D[i]'(by omega) := nmT_at D i (by omega) hlT
        obtain ⟨r, hr⟩ : ∃ r, D[i]'(by omega) = r := ⟨_, rfl⟩
        have hpr := H.out.2.2.2 r (by rw [← hr]; exact List.getElem_mem _)
        obtain ⟨p1, p2, p3⟩ := prL_facts hpr
        have hrow := (hblk.rows i hlG hlT)
        have hoc := ovc_at gs (nmT D i) i hlG hlT
        have hset0 := nmT_set D i (by omega)
        rw [hTi, hr] at hrow hoc
        rw [hr] at hset0
        obtain ⟨gi, hgi⟩ : ∃ gi, gs[i] = gi := ⟨_, rfl⟩
        rw [hgi] at hrow hoc
        have c1 : wr.cell? ⟨g, i, none⟩ = some (.slice (some ⟨gi, 0, none⟩) r.length r.length) := by
          refine obj_cell hblk.outer i _ ?_
          have hlen := ovc_len gs (nmT D i) hblk.len
          simp only [List.getElem?_toArray]
          rw [List.getElem?_append_left (by rw [hlen]; exact hlT)]
          exact hoc
        obtain ⟨k, hk⟩ : ∃ k, r.length = k := ⟨_, rfl⟩
        rw [hk] at c1 p2
        have HA := Lib.hid (And.intro hblk (And.intro hb (And.intro hTi (And.intro hset0 (And.intro hgi (And.intro p3 (And.intro hk hr)))))))
        clear hblk hb hTi hset0 hoc p3 hpr hrow p1
        go_wp2
        go_loopw [26] (fun v wr => ∃ j : Nat, j ≤ k ∧ v = .int .i64 (j : Nat) ∧ DnBlk wr w.heap.size g gs ((nmT D i).set i (nmJ r j)) 0 65 63 ∧ Below w.heap.size w wr) (fun v _ => k - (intOf v).toNat)
        case atStart =>
          refine ⟨0, Nat.zero_le _, rfl, blk_cong HA.out.1 ?_, HA.out.2.1⟩
          rw [nmJ_zero, ← HA.out.2.2.2.2.2.2.2, ← HA.out.2.2.1, List.set_getElem_self]
        case round =>
          obtain ⟨j, hj, rfl, hblk, hb⟩ := hrel
          by_cases hlj : j < k
          · have hjk : (j : Int) < (k : Int) := by omega
            have hrj : j < r.length := by have := HA.out.2.2.2.2.2.2.1; omega
            have hlS : i < ((nmT D i).set i (nmJ r j)).length := by simpa using hlT
            have hSi : ((nmT D i).set i (nmJ r j))[i]'hlS = nmJ r j := by simp
            have hrow := (hblk.rows i hlG hlS)
            rw [hSi, HA.out.2.2.2.2.1] at hrow
            have hJl : j < (nmJ r j).length := by rw [nmJ_len]; exact hrj
            have hJat := nmJ_at r j hrj hJl
            have hJset := nmJ_set r j hrj
            have hok := avOk_len (HA.out.2.2.2.2.2.1 _ (List.getElem_mem hrj))
            have a1 := obj_cell hrow.2.2 (j * 2) _ (by simpa using (avc_at (nmJ r j) j hJl).1)
            have a2 := obj_cell hrow.2.2 (j * 2 + 1) _ (by simpa using (avc_at (nmJ r j) j hJl).2)
            have a3 := obj_free hrow.2.2 (j * 2)
            have a4 := obj_free hrow.2.2 (j * 2 + 1)
            rw [hJat] at a1 a2
            have hgl := obj_lt hrow.2.2
            have hgB := hrow.1
            obtain ⟨p, hp⟩ : ∃ p, r[j] = p := ⟨_, rfl⟩
            rw [hp] at a1 a2 hok hJset
            obtain ⟨T, V⟩ := p
            have HLo := Lib.hid (fun w => show Calls Tryz.prog 16 #[.string ⟨T.toArray⟩] w (StrPost (lowL T) w) from lower_any ⟨T.toArray⟩ w)
            have HFo := Lib.hid (fun w => show Calls Tryz.prog 39 #[.string ⟨V.toArray⟩] w (StrPost (foldL V) w) from fold_any ⟨V.toArray⟩ w (by show V.length + 1 ≤ _; have := hok.2.2.1; simp at this; omega))
            change nmJ r j |>.set j (lowL T, foldL V) |> fun z => z = _ at hJset
            obtain ⟨LT, hLT⟩ : ∃ L, lowL T = L := ⟨_, rfl⟩
            obtain ⟨FV, hFV⟩ : ∃ L, foldL V = L := ⟨_, rfl⟩
            rw [hLT] at HLo hJset
            rw [hFV] at HFo hJset
            have HB := Lib.hid (And.intro hblk (And.intro hb (And.intro hJset (And.intro hSi (And.intro hgB hlS)))))
            clear hblk hb hrow hJat hJset hok hp hSi hgB hLT hFV
            go_wp2
            obtain ⟨W2, hW2⟩ : ∃ W2, wr.alloc (.cells #[.string ⟨T.toArray⟩, .string ⟨V.toArray⟩] 65) = W2 := ⟨_, rfl⟩
            have hb2 : Below wr.heap.size wr W2 := by rw [← hW2]; exact (Below.refl _ wr).alloc (Nat.le_refl _) _
            have hbox : W2.heap[wr.heap.size]? = some (.cells #[.string ⟨T.toArray⟩, .string ⟨V.toArray⟩] 65 (0, 0)) := by rw [← hW2]; exact heap_alloc_new wr _
            obtain ⟨d1, d2⟩ := obj2 hbox
            have hz3 := obj_lt hbox
            have b1 := (hb2.cell (p := ⟨gi, j * 2, none⟩) hgl).trans a1
            have b2 := (hb2.cell (p := ⟨gi, j * 2 + 1, none⟩) hgl).trans a2
            have b3 := (hb2.frozen (p := ⟨gi, j * 2, none⟩) hgl).trans a3
            have b4 := (hb2.frozen (p := ⟨gi, j * 2 + 1, none⟩) hgl).trans a4
            have hgl2 : gi < W2.heap.size := Nat.lt_of_lt_of_le hgl hb2.size
            have HB2 := Lib.hid hb2
            obtain ⟨bx, hbx⟩ : ∃ bx, wr.heap.size = bx := ⟨_, rfl⟩
            rw [hW2]
            rw [hbx] at d1 d2 hz3 ⊢
            have hne : bx ≠ gi := by omega
            clear a1 a2 a3 a4 hb2 hbox hW2 hbx hgl
            go_region_held3 (fun w' => w'.cell? ⟨bx, 0, none⟩ = some (.string ⟨T.toArray⟩) ∧ w'.cell? ⟨bx, 1, none⟩ = some (.string ⟨V.toArray⟩)) (first | exact ⟨e0, e1⟩ | exact ⟨d1, d2⟩ | exact ⟨(cell_other2 hne _ _ _ _ _).trans e0, (cell_other2 hne _ _ _ _ _).trans e1⟩ | go_keep)
              (first | (go_at_call 16; refine (HLo.out _).mono ?_; rintro en w5 ⟨rfl, hb5⟩; have hbW : Below W2.heap.size W2 w5 := (by first | exact hbW.trans (hb5.mono hbW.size) | exact (Below.refl _ W2).drew.trans hb5); have e0 := (hbW.cell (p := ⟨bx, 0, none⟩) hz3).trans d1; have e1 := (hbW.cell (p := ⟨bx, 1, none⟩) hz3).trans d2; have e2 := (hbW.cell (p := ⟨gi, j * 2, none⟩) hgl2).trans b1; have e3 := (hbW.cell (p := ⟨gi, j * 2 + 1, none⟩) hgl2).trans b2; have e4 := (hbW.frozen (p := ⟨gi, j * 2, none⟩) hgl2).trans b3; have e5 := (hbW.frozen (p := ⟨gi, j * 2 + 1, none⟩) hgl2).trans b4) | (go_at_call 39; refine (HFo.out _).mono ?_; rintro en w5 ⟨rfl, hb5⟩; have hbW : Below W2.heap.size W2 w5 := (by first | exact hbW.trans (hb5.mono hbW.size) | exact (Below.refl _ W2).drew.trans hb5); have e0 := (hbW.cell (p := ⟨bx, 0, none⟩) hz3).trans d1; have e1 := (hbW.cell (p := ⟨bx, 1, none⟩) hz3).trans d2; have e2 := (hbW.cell (p := ⟨gi, j * 2, none⟩) hgl2).trans b1; have e3 := (hbW.cell (p := ⟨gi, j * 2 + 1, none⟩) hgl2).trans b2; have e4 := (hbW.frozen (p := ⟨gi, j * 2, none⟩) hgl2).trans b3; have e5 := (hbW.frozen (p := ⟨gi, j * 2 + 1, none⟩) hgl2).trans b4))
            have HW := Lib.hid (And.intro (blk_below HB.out.1 (HB2.out.trans (hbW.mono HB2.out.size))) (HB.out.2.1.trans ((HB2.out.trans (hbW.mono HB2.out.size)).mono HB.out.2.1.size)))
            clear e0 e1 hb5 hbW d1 d2 b1 b2 b3 b4
            go_wp2
            have hJl2 : j < (((nmT D i).set i (nmJ r j))[i]'HB.out.2.2.2.2.2).length := by rw [HB.out.2.2.2.1, nmJ_len]; exact hrj
            have hset := blk_set HW.out.1 i hlG HB.out.2.2.2.2.2 j hJl2 (LT, FV)
            rw [HB.out.2.2.2.1, HA.out.2.2.2.2.1, List.set_set, HB.out.2.2.1] at hset
            refine ⟨⟨j + 1, by omega, by go_num, hset, ?_⟩, by simp [intOf]; omega⟩
            exact (HW.out.2.setCell (p := ⟨gi, j * 2, none⟩) HB.out.2.2.2.2.1 _).setCell (p := ⟨gi, j * 2 + 1, none⟩) HB.out.2.2.2.2.1 _
          · obtain rfl : j = k := by omega
            have hrk := HA.out.2.2.2.2.2.2.1
            have hS := blk_cong hblk (show _ = (nmT D i).set i (r.map nmA) by rw [nmJ_end r j (by omega)])
            have hlS : i < ((nmT D i).set i (r.map nmA)).length := by simpa using hlT
            have hSi : ((nmT D i).set i (r.map nmA))[i]'hlS = r.map nmA := by simp
            have hso := dsort_any wr hS i hlG hlS (by rw [hSi, List.length_map]; omega)
            rw [hSi, HA.out.2.2.2.2.1, List.length_map, hrk, List.set_set] at hso
            have hfin : (nmT D i).set i (srtR (r.map nmA)) = nmT D (i + 1) := HA.out.2.2.2.1
            rw [hfin] at hso
            have HS := Lib.hid hso
            unfold rowV at HS
            have HB := Lib.hid hb
            clear hso hS hSi hfin hblk hb hrk hlS
            go_wp2_with fail
            refine HS.out.mono ?_
            rintro e w3 ⟨rfl, hd3, hb3⟩
            have H3 := Lib.hid (And.intro hd3 (HB.out.trans hb3))
            clear hd3 hb3
            go_wp2
            exact ⟨⟨i + 1, by omega, by go_num, H3.out.1, H3.out.2⟩, by simp [intOf]; omega⟩
      · obtain rfl : i = N := by omega
        have hS := blk_cong hblk (nmT_end D i (by omega))
        have HC := Lib.hid (dput_any (rowV g (D.map nmR).length) (D.map nmR) wr (dnAt_blk hS))
        rw [List.length_map, hN] at HC
        unfold rowV at HC
        have HB := Lib.hid hb
        obtain ⟨pq, hpq⟩ : ∃ pq, puD (D.map nmR) = pq := ⟨_, rfl⟩
        rw [hpq] at H HC
        clear hS hblk hb hpq
        obtain ⟨X, m⟩ := pq
        go_wp2_with fail
        refine HC.out.mono ?_
        rintro e w3 ⟨rfl, hb3⟩
        have HB3 := Lib.hid (HB.out.trans (hb3.mono HB.out.size))
        clear hb3
        go_wp2
        go_ret2
        exact putPost_mk H.out.1 HB3.out
end Go.Proofs.YtlopmppiihhnnaaGreatDoor
