/- The code's lists made small. The code's table of classes, filled. -/
import Derived.Test.YtcfckgpjdaadeaaGreatDoorSnCD
import Derived.Deep.CutRange
import Derived.Deep.RegionWith
import Derived.Deep.LoopGhost
namespace Go.Proofs.YtcfckgpjdaadeaaGreatDoor
set_option linter.unusedSimpArgs false
set_option linter.unusedVariables false
open Go Go.RowKit Go.Proofs.BerK Go.Proofs.MemK Go.Proofs.UtfK

/-- Texts in a row that is new. -/
def LwS (l : List (List UInt8)) (w : World) (en : Ending) (w' : World) : Prop :=
  ∃ g c, en = .returned (.slice (some ⟨g, 0, none⟩) l.length c) ∧ w'.ownsRow w.heap.size 9 1 (.slice (some ⟨g, 0, none⟩) l.length c) l.length (sc l) ∧ Below w.heap.size w w' ∧ w.heap.size ≤ g
set_option maxHeartbeats 3200000 in
set_option maxRecDepth 100000 in
theorem snlower_any (ms : List (List UInt8)) (v : Value) (w : World) (hl : ms.length ≤ 1000000) (hm : TxR w v ms) :
    Calls Tryz.prog 91 #[v] w (LwS (ms.map lowL) w) := by
  obtain ⟨a, c, rfl, hcells⟩ := hm
  have HM := Lib.hid hcells
  obtain ⟨L, hL⟩ : ∃ L, ms.map lowL = L := ⟨_, rfl⟩
  have hLl : L.length = ms.length := by rw [← hL]; simp
  have HL := Lib.hid hL
  rw [hL]
  obtain ⟨n, hn⟩ : ∃ n, ms.length = n := ⟨_, rfl⟩
  have HN := Lib.hid hn
  rw [hn] at hl hLl ⊢
  have HLl := Lib.hid hLl
  obtain ⟨i0, hi, hz0, hz1, hz2⟩ := info_parts Tryz.sninfo9
  have HI := Lib.hid hi
  have HZ0 := Lib.hid hz0
  have HZ1 := Lib.hid hz1
  have HZ2 := Lib.hid hz2
  clear hi hz0 hz1 hz2 hcells hL hn
  go_enter Tryz.func91, Tryz.ntmps91
  go_wp2_with (at_make; refine wpList_make_full _ rfl _ _ 38 rfl w.heap.size 9 i0 (.string ByteArray.empty) 1 Tryz.underlying38 HI.out HZ0.out HZ1.out _ _ _ _ n rfl rfl ?e1 ?e2 ?b0 ?b1 ?b2 ?_)
  case e1 => rfl
  case e2 => rfl
  case b0 => rw [HZ2.out]; omega
  case b1 => unfold maxLen; omega
  case b2 => exact Nat.le_refl _
  intro w3 hown3 hg3
  have hb3 : Below w.heap.size w w3 := (Below.refl _ _).grown hg3 (Nat.le_refl _) (fun k hk => by cases hk)
  have e0 := preS_0 L
  rw [hLl] at e0
  rw [← e0] at hown3
  have hs3 : w.heap.size ≤ w3.heap.size := hb3.size
  have HX := Lib.hid hb3
  clear e0 hg3 hb3
  go_wp2
  go_loopw [11] (fun v wr => ∃ i : Nat, i ≤ n ∧ v = .int .i64 (i : Nat) ∧ wr.ownsRow w.heap.size 9 1 (.slice (some ⟨w.heap.size, 0, none⟩) n n) n (sc (preS L i)) ∧ Below w.heap.size w wr) (fun v _ => n - (intOf v).toNat)
  case atStart => exact ⟨0, by omega, rfl, hown3, HX.out⟩
  case round =>
    obtain ⟨i, hi, rfl, hown, hb⟩ := hrel
    have hsr : w.heap.size ≤ wr.heap.size := hb.size
    by_cases hlt : i < n
    · have hil : (i : Int) < (n : Int) := by omega
      have hims : i < ms.length := by rw [HN.out]; exact hlt
      obtain ⟨g, o, rfl, hg, e1w⟩ := HM.out i hims
      have e1 := (hb.cell (p := ⟨g, o + i, none⟩) hg).trans e1w
      have hiL : i < L.length := by rw [hLl]; exact hlt
      have hLi : L[i] = lowL ms[i] := by
        have := HL.out
        subst this
        simp
      have hset := preS_set L i hiL
      have hat := preS_at L i hiL
      rw [hLi] at hset
      obtain ⟨m, hmm⟩ : ∃ m, ms[i] = m := ⟨_, rfl⟩
      rw [hmm] at e1 hset
      have HLo := Lib.hid (fun w => show Calls Tryz.prog 38 #[.string ⟨m.toArray⟩] w (StrPost (lowL m) w) from lower_any ⟨m.toArray⟩ w)
      obtain ⟨LM, hLM⟩ : ∃ x, lowL m = x := ⟨_, rfl⟩
      rw [hLM] at HLo hset
      have H := Lib.hid (And.intro hown (And.intro hb (And.intro hset hat)))
      clear hown hb hset hat hLi hmm hLM e1w
      go_wp2_with fail
      refine (HLo.out _).mono ?_
      rintro e w5 ⟨rfl, hb5⟩
      have hown5 := ownsRow_below H.out.1 hb5
      have c0 := (hown5.cellAt i (by omega)).trans H.out.2.2.2
      have f0 := hown5.frozenAt i
      have H5 := Lib.hid (And.intro hown5 (H.out.2.1.trans (hb5.mono hsr)))
      clear hown5 hb5
      go_wp2
      refine ⟨⟨i + 1, by omega, by go_num, ?_, ?_⟩, by simp [intOf]; omega⟩
      · have h7 := (H5.out.1.stored i (.string ⟨LM.toArray⟩)).1
        rw [H.out.2.2.1] at h7
        exact h7
      · exact H5.out.2.setCell (p := ⟨w.heap.size, i, none⟩) (Nat.le_refl _) _
    · obtain rfl : i = n := by omega
      have H := Lib.hid (And.intro hown hb)
      clear hown hb
      go_wp2
      go_ret
      have ho := H.out.1
      rw [← hLl, preS_all] at ho
      exact ⟨w.heap.size, L.length, by rw [hLl]; rfl, ho, H.out.2, Nat.le_refl _⟩

/-- Classes as cells: each with the values of its two lists. -/
def clc (c : List UInt8 × Value × Value) : List Value := [.string ⟨c.1.toArray⟩, c.2.1, c.2.2]
def clcs (L : List (List UInt8 × Value × Value)) : List Value := L.flatMap clc
theorem clcs_append (a b : List (List UInt8 × Value × Value)) : clcs (a ++ b) = clcs a ++ clcs b := by simp [clcs]
theorem clcs_at : ∀ (L : List (List UInt8 × Value × Value)) (i : Nat) (h : i < L.length), (clcs L)[i * 3]? = some (.string ⟨L[i].1.toArray⟩) ∧ (clcs L)[i * 3 + 1]? = some L[i].2.1 ∧ (clcs L)[i * 3 + 2]? = some L[i].2.2 := by
  intro L
  induction L with
  | nil => intro i h; simp at h
  | cons c L ih =>
    intro i h
    have e : clcs (c :: L) = .string ⟨c.1.toArray⟩ :: c.2.1 :: c.2.2 :: clcs L := rfl
    cases i with
    | zero => rw [e]; exact ⟨rfl, rfl, rfl⟩
    | succ i =>
      have := ih i (by simpa using h)
      rw [e, show (i + 1) * 3 = i * 3 + 1 + 1 + 1 by omega]
      simpa using this
/-- A row of texts is this block. -/
def StrBlk (w : World) (j : Nat) : Prop := ∃ cur, w.heap[j]? = some (.cells cur 9 (0, 0))
theorem strBlk_row {w : World} {B : Nat} {v : Value} {n : Nat} {xs : List Value} (h : w.ownsRow B 9 1 v n xs) : ∀ j, v.ownBlock = some j → B ≤ j ∧ StrBlk w j := by
  intro j hj
  rcases h.2 with ⟨rfl, _⟩ | ⟨g, cap, cur, rfl, hb, hg, _⟩
  · cases hj
  · injection hj with hj
    have hj : g = j := hj
    subst hj
    exact ⟨hb, cur, hg⟩
/-- A class lies behind its cells. -/
def ClOne (w : World) (B : Nat) (c : Cl) (q : List UInt8 × Value × Value) : Prop :=
  q.1 = c.1 ∧ ∃ g1 c1 g2 c2, q.2.1 = .slice (some ⟨g1, 0, none⟩) c.2.1.length c1 ∧ q.2.2 = .slice (some ⟨g2, 0, none⟩) c.2.2.length c2 ∧ w.ownsRow B 9 1 q.2.1 c.2.1.length (sc c.2.1) ∧ w.ownsRow B 9 1 q.2.2 c.2.2.length (sc c.2.2)
theorem clOne_chg {S : Nat → Prop} {w w' : World} {B : Nat} {c : Cl} {q : List UInt8 × Value × Value} (h : ClOne w B c q) (hc : Chg S w w') (hs : ∀ g, B ≤ g → StrBlk w g → ¬ S g) : ClOne w' B c q := by
  obtain ⟨h0, g1, c1, g2, c2, e1, e2, t1, t2⟩ := h
  exact ⟨h0, g1, c1, g2, c2, e1, e2, ownsRow_chg t1 hc (fun j hj => hs j (strBlk_row t1 j hj).1 (strBlk_row t1 j hj).2), ownsRow_chg t2 hc (fun j hj => hs j (strBlk_row t2 j hj).1 (strBlk_row t2 j hj).2)⟩
/-- Classes lie behind their cells. -/
def ClAll (w : World) (B : Nat) (C : List Cl) (L : List (List UInt8 × Value × Value)) : Prop := L.length = C.length ∧ ∀ i (h1 : i < C.length) (h2 : i < L.length), ClOne w B C[i] L[i]
theorem clAll_nil (w : World) (B : Nat) : ClAll w B [] [] := ⟨rfl, fun i h => by simp at h⟩
theorem clAll_chg {S : Nat → Prop} {w w' : World} {B : Nat} {C : List Cl} {L : List (List UInt8 × Value × Value)} (h : ClAll w B C L) (hc : Chg S w w') (hs : ∀ g, B ≤ g → StrBlk w g → ¬ S g) : ClAll w' B C L :=
  ⟨h.1, fun i h1 h2 => clOne_chg (h.2 i h1 h2) hc hs⟩
theorem clAll_snoc {w : World} {B : Nat} {C : List Cl} {L : List (List UInt8 × Value × Value)} {c : Cl} {q : List UInt8 × Value × Value} (h : ClAll w B C L) (h1 : ClOne w B c q) : ClAll w B (C ++ [c]) (L ++ [q]) := by
  refine ⟨by simp [h.1], fun i i1 i2 => ?_⟩
  by_cases hi : i < C.length
  · rw [List.getElem_append_left hi, List.getElem_append_left (by rw [h.1]; exact hi)]
    exact h.2 i hi _
  · have : i = C.length := by simp at i1; omega
    subst this
    have e : L.length = C.length := h.1
    simp only [List.getElem_append_right (Nat.le_refl C.length), Nat.sub_self, List.getElem_cons_zero]
    rw [List.getElem_append_right (by omega)]
    simp [e, h1]
theorem clAt_owns {w : World} {B : Nat} {v : Value} {C : List Cl} {L : List (List UInt8 × Value × Value)} (h : w.ownsRow B 40 3 v C.length (clcs L)) (hc : ClAll w B C L) : ClAt w v C := by
  rcases h.2 with ⟨rfl, h0⟩ | ⟨g, cap, cur, rfl, _, hg, _⟩
  · exact ⟨none, 0, by rw [h0], fun i hi => by omega⟩
  · refine ⟨_, cap, rfl, fun i hi => ?_⟩
    have hl : i < L.length := by rw [hc.1]; exact hi
    obtain ⟨h0, g1, c1, g2, c2, e1, e2, t1, t2⟩ := hc.2 i hi hl
    obtain ⟨a1, a2, a3⟩ := clcs_at L i hl
    refine ⟨g, 0, L[i].2.1, L[i].2.2, rfl, (Array.getElem?_eq_some_iff.1 hg).1, ?_⟩
    rw [Nat.zero_add]
    exact ⟨(h.cellAt _ (by omega)).trans (by rw [a1, h0]), (h.cellAt _ (by omega)).trans a2, (h.cellAt _ (by omega)).trans a3, txR_owns t1, txR_owns t2, .inr ⟨_, _, _, e1⟩, .inr ⟨_, _, _, e2⟩⟩
theorem strBlk_ne_map {w : World} {b j : Nat} {N : List (List UInt8)} (hm : NmAt w (.map (some b)) N) (h : StrBlk w j) : j ≠ b := by
  obtain ⟨cur, h⟩ := h
  exact fun e => nmAt_ne hm h e.symm
theorem strBlk_ne_row {w : World} {B : Nat} {size : Nat} {v : Value} {n : Nat} {xs : List Value} (hr : w.ownsRow B 40 size v n xs) {j : Nat} (h : StrBlk w j) : v.ownBlock ≠ some j := by
  intro hj
  obtain ⟨cur, h⟩ := h
  rcases hr.2 with ⟨rfl, _⟩ | ⟨g, cap, cur', rfl, hb, hg, _⟩
  · cases hj
  · injection hj with hj
    have hj : g = j := hj
    subst hj
    rw [h] at hg
    cases hg
theorem strBlk_ne_cells {w : World} {g j : Nat} {cs : Array Value} {t : TypeId} (hg : w.heap[g]? = some (.cells cs t (0, 0))) (ht : t ≠ 9) (h : StrBlk w j) : j ≠ g := by
  rintro rfl
  obtain ⟨cur, h⟩ := h
  rw [h] at hg
  injection hg with hg
  injection hg with _ hg _
  exact ht hg.symm
/-- The error of a table of classes. -/
def scFC (C : List Cl) : Nat := if nmsL (C.map Prod.fst) ≠ 0 then 13 else if twcL (C.map Prod.fst) = true then 9 else 0
theorem lowCl_names (T : List Cl) : (T.map lowCl).map (·.1) = T.map (fun t => lowL t.1) := by rw [List.map_map]; rfl
/-- What a table of classes leaves. -/
def FillC (C : List Cl) (g : Nat) (m1 v1 : Value) (w : World) (en : Ending) (w' : World) : Prop :=
  en = .returned (.int .i64 (scFC C : Nat)) ∧ Chg (fun k => k = g) w w' ∧ (scFC C = 0 → ∃ mv a n c, w'.heap[g]? = some (.cells #[m1, v1, mv, .slice a n c] 77 (0, 0)) ∧ NmAt w' mv ((C.map lowCl).map (·.1)) ∧ ClAt w' (.slice a n c) (C.map lowCl))
theorem fillC_mk {C : List Cl} {g : Nat} {m1 v1 : Value} {w w' : World} {n : Nat} (h : scFC C = n) (hn : n ≠ 0) (hc : Chg (fun k => k = g) w w') : FillC C g m1 v1 w (.returned (.int .i64 (n : Nat))) w' := by
  subst h; exact ⟨rfl, hc, fun h => absurd h hn⟩
end Go.Proofs.YtcfckgpjdaadeaaGreatDoor
namespace Go.Proofs.YtcfckgpjdaadeaaGreatDoor
set_option linter.unusedSimpArgs false
set_option linter.unusedVariables false
open Go Go.RowKit Go.Proofs.BerK Go.Proofs.MemK Go.Proofs.UtfK

/-- A row of a table of classes, made small. -/
def RowC (LX : List UInt8) (MA MB : List (List UInt8)) (wr wx : World) : Prop :=
  ∃ gA cA gB cB, wx.heap[wr.heap.size]? = some (.cells #[.string ⟨LX.toArray⟩, .slice (some ⟨gA, 0, none⟩) MA.length cA, .slice (some ⟨gB, 0, none⟩) MB.length cB] 40 (0, 0)) ∧ Below wr.heap.size wr wx ∧
    wx.ownsRow wr.heap.size 9 1 (.slice (some ⟨gA, 0, none⟩) MA.length cA) MA.length (sc MA) ∧ wx.ownsRow wr.heap.size 9 1 (.slice (some ⟨gB, 0, none⟩) MB.length cB) MB.length (sc MB)
theorem snchg_set3 (g : Nat) (w : World) (a b c : Value) : Chg (fun k => k = g) w (((w.setCell ⟨g, 0, none⟩ a).setCell ⟨g, 1, none⟩ b).setCell ⟨g, 2, none⟩ c) :=
  (((Chg.refl (fun k => k = g) w).setCell (p := ⟨g, 0, none⟩) (fun _ => rfl) _).setCell (p := ⟨g, 1, none⟩) (fun _ => rfl) _).setCell (p := ⟨g, 2, none⟩) (fun _ => rfl) _
theorem rowC_mk {LX : List UInt8} {MA MB : List (List UInt8)} {wr W0 w5 w6 w7 : World} {a b c : Value} {gA cA gB cB : Nat} (hb00 : Below wr.heap.size wr W0) (z0 : wr.heap.size < W0.heap.size) (y0 : W0.heap[wr.heap.size]? = some (.cells #[a, b, c] 40 (0, 0)))
    (hbW : Below W0.heap.size W0 w7) (h5 : W0.heap.size ≤ w5.heap.size) (h6 : W0.heap.size ≤ w6.heap.size)
    (rA : w7.ownsRow w5.heap.size 9 1 (.slice (some ⟨gA, 0, none⟩) MA.length cA) MA.length (sc MA)) (rB : w7.ownsRow w6.heap.size 9 1 (.slice (some ⟨gB, 0, none⟩) MB.length cB) MB.length (sc MB)) :
    RowC LX MA MB wr (((w7.setCell ⟨wr.heap.size, 0, none⟩ (.string ⟨LX.toArray⟩)).setCell ⟨wr.heap.size, 1, none⟩ (.slice (some ⟨gA, 0, none⟩) MA.length cA)).setCell ⟨wr.heap.size, 2, none⟩ (.slice (some ⟨gB, 0, none⟩) MB.length cB)) := by
  have y7 := obj_below y0 hbW z0
  refine ⟨gA, cA, gB, cB, obj_set3 y7 _ _ _, below_set3 (hb00.trans (hbW.mono (Nat.le_of_lt z0))) (Nat.le_refl _) _ _ _, ?_, ?_⟩
  · refine ownsRow_chg (ownsRow_base rA (by omega)) (snchg_set3 _ _ _ _ _) (fun j hj => ?_)
    have := (rA.lt j hj).1
    show ¬ j = _
    omega
  · refine ownsRow_chg (ownsRow_base rB (by omega)) (snchg_set3 _ _ _ _ _) (fun j hj => ?_)
    have := (rB.lt j hj).1
    show ¬ j = _
    omega
set_option maxHeartbeats 6400000 in
set_option maxRecDepth 100000 in
theorem fillC_any (T : List Cl) (tv : Value) (g : Nat) (m1 v1 : Value) (w0 w : World) (h : ClAt w0 tv T) (hb0 : Below w0.heap.size w0 w) (hgl : w0.heap.size ≤ g) (hl : T.length ≤ 1024) (hbt : ∀ t ∈ T, t.1.length ≤ 140737488355328)
    (hlm : ∀ t ∈ T, t.2.1.length ≤ 1000000 ∧ t.2.2.length ≤ 1000000)
    (hg : w.heap[g]? = some (.cells #[m1, v1, .map none, .slice none 0 0] 77 (0, 0))) :
    Calls Tryz.prog 56 #[.pointer (some ⟨g, 2, none⟩), tv] w (FillC T g m1 v1 w) := by
  have hA := clAt_below h hb0
  have HC1 := Lib.hid (cnC1_any T tv w hA (by omega))
  rw [nms_any] at HC1
  clear hA
  obtain ⟨a, c, rfl, hcells⟩ := h
  have HM := Lib.hid hcells
  have HB0 := Lib.hid hb0
  have HBt := Lib.hid hbt
  have HBm := Lib.hid hlm
  have HG := Lib.hid hg
  have hgs := obj_lt hg
  have hsw := hb0.size
  obtain ⟨n, hn⟩ : ∃ n, T.length = n := ⟨_, rfl⟩
  have HL := Lib.hid hn
  obtain ⟨F, hF⟩ : ∃ F, scFC T = F := ⟨_, rfl⟩
  have hF' := hF
  unfold scFC at hF'
  by_cases h1 : nmsL (T.map Prod.fst) ≠ 0
  · rw [if_pos h1] at hF'
    rw [decide_eq_true h1] at HC1
    have HF := Lib.hid (hF.trans hF'.symm)
    clear hcells hb0 hbt hg hn hF hF' h1 hlm
    go_enter Tryz.func56, Tryz.ntmps56
    go_wp2_with fail
    refine HC1.out.mono ?_
    rintro en w1 ⟨rfl, hb⟩
    have HB := Lib.hid hb
    clear hb
    go_wp2
    go_ret
    exact fillC_mk HF.out (by decide) (Chg.ofBelow HB.out)
  rw [if_neg h1] at hF'
  rw [decide_eq_false h1] at HC1
  rw [twc_nodup] at hF'
  obtain ⟨TL, hTL⟩ : ∃ TL, T.map lowCl = TL := ⟨_, rfl⟩
  have hTLl : TL.length = n := by rw [← hTL]; simpa using hn
  have hNM : T.map (fun t => lowL t.1) = TL.map (·.1) := by rw [← hTL, lowCl_names]
  rw [hNM] at hF'
  have HD := Lib.hid (show ¬ (TL.map (·.1)).Nodup → F = 9 by intro h; rw [← hF', decide_eq_false h]; rfl)
  have HO := Lib.hid (show (TL.map (·.1)).Nodup → F = 0 by intro h; rw [← hF', decide_eq_true h]; rfl)
  have HFF := Lib.hid hF
  have HTL := Lib.hid hTL
  have HTLl := Lib.hid hTLl
  rw [hn] at hl HC1 ⊢
  clear hcells hb0 hbt hg hn hF hF' h1 hTL hTLl hNM hlm
  go_enter Tryz.func56, Tryz.ntmps56
  go_wp2_with fail
  refine HC1.out.mono ?_
  rintro en w2 ⟨rfl, hb⟩
  have HB2 := Lib.hid hb
  clear hb
  have hs2 := HB2.out.size
  go_wp2
  go_loopw [11] (fun v wr => ∃ (k : Nat) (mv rv : Value) (L : List (List UInt8 × Value × Value)), k ≤ n ∧ v = .int .i64 (k : Nat) ∧ wr.heap[g]? = some (.cells #[m1, v1, mv, rv] 77 (0, 0)) ∧ NmAt wr mv ((TL.take k).map (·.1)) ∧ wr.ownsRow w.heap.size 40 3 rv k (clcs L) ∧
      ClAll wr w.heap.size (TL.take k) L ∧ (∀ b, mv = .map (some b) → w.heap.size ≤ b) ∧ ((TL.take k).map (·.1)).Nodup ∧ Chg (fun k => k = g) w wr) (fun v _ => n - (intOf v).toNat)
  case atStart => exact ⟨0, .map none, .slice none 0 0, [], by omega, rfl, obj_below HG.out HB2.out hgs, nmAt_nil _, ⟨rfl, .inl ⟨rfl, rfl⟩⟩, clAll_nil _ _, fun b h => (by cases h), by simp, Chg.ofBelow HB2.out⟩
  case round =>
    obtain ⟨k, mv, rv, L, hk, rfl, hgr, hnm, hrow, hall, hmb, hnd, hch⟩ := hrel
    have hsr := hch.size
    by_cases hlt : k < n
    · have hkl : (k : Int) < (n : Int) := by omega
      have hkm : k < T.length := by rw [HL.out]; exact hlt
      have hb0r : Below w0.heap.size w0 wr := HB0.out.trans (hch.toBelow hsw (fun j _ h => by rw [h]; exact hgl))
      obtain ⟨g1, o1, mu, ma, rfl, hg1, e0w, e1w, e2w, tmu, tma, smu, sma⟩ := HM.out k hkm
      obtain ⟨a1, n1, c1, rfl⟩ := slOk_form smu
      obtain ⟨a2, n2, c2, rfl⟩ := slOk_form sma
      have e0 := (hb0r.cell (p := ⟨g1, _, none⟩) hg1).trans e0w
      have e1 := (hb0r.cell (p := ⟨g1, _, none⟩) hg1).trans e1w
      have e2 := (hb0r.cell (p := ⟨g1, _, none⟩) hg1).trans e2w
      have hbd := HBt.out _ (List.getElem_mem hkm)
      have hbm := HBm.out _ (List.getElem_mem hkm)
      have hkL : k < TL.length := by rw [HTLl.out]; exact hlt
      have hTk : TL[k] = (lowL T[k].1, T[k].2.1.map lowL, T[k].2.2.map lowL) := by
        have := HTL.out
        subst this
        simp [lowCl]
      obtain ⟨nm, hnmk⟩ : ∃ x, T[k].1 = x := ⟨_, rfl⟩
      obtain ⟨MU, hMU⟩ : ∃ x, T[k].2.1 = x := ⟨_, rfl⟩
      obtain ⟨MA, hMA⟩ : ∃ x, T[k].2.2 = x := ⟨_, rfl⟩
      rw [hnmk] at e0 hbd hTk
      rw [hMU] at tmu hbm hTk
      rw [hMA] at tma hbm hTk
      have HLo := Lib.hid (fun w => show Calls Tryz.prog 38 #[.string ⟨nm.toArray⟩] w (StrPost (lowL nm) w) from lower_any ⟨nm.toArray⟩ w)
      have hLl : (lowL nm).length ≤ 140737488355328 := by simpa [lowL] using hbd
      have HLu := Lib.hid (fun w' (hb : Below wr.heap.size wr w') => snlower_any MU (.slice a1 n1 c1) w' hbm.1 (txR_below (txR_below tmu hb0r) hb))
      have HLa := Lib.hid (fun w' (hb : Below wr.heap.size wr w') => snlower_any MA (.slice a2 n2 c2) w' hbm.2 (txR_below (txR_below tma hb0r) hb))
      obtain ⟨LX, hLX⟩ : ∃ x, lowL nm = x := ⟨_, rfl⟩
      obtain ⟨LU, hLU⟩ : ∃ x, MU.map lowL = x := ⟨_, rfl⟩
      obtain ⟨LA, hLA⟩ : ∃ x, MA.map lowL = x := ⟨_, rfl⟩
      rw [hLX] at HLo hTk hLl
      rw [hLU] at HLu hTk
      rw [hLA] at HLa hTk
      obtain ⟨ra, rc, rfl⟩ := ownsRow_slice hrow
      have hTs : TL.take (k + 1) = TL.take k ++ [(LX, LU, LA)] := by rw [List.take_succ_eq_append_getElem hkL, hTk]
      have HT := Lib.hid (And.intro hTs (And.intro hTk hkL))
      have HI := Lib.hid (And.intro hgr (And.intro hnm (And.intro hrow (And.intro hmb (And.intro hnd (And.intro hch (And.intro hb0r hall)))))))
      have hgrs := obj_lt hgr
      have HLL := Lib.hid hLl
      clear hgr hnm hrow hmb hnd hch hb0r e0w e1w e2w hnmk hbd hTk hTs hLl hMU hMA hLX hLU hLA hbm tmu tma smu sma hall
      go_upto_region 6 with (fail)
      clear e0 e1 e2
      go_cut [6, 11] from 11 to 42 (fun s6 s11 wx => s6 = .pointer (some ⟨wr.heap.size, 0, none⟩) ∧ s11 = .int .i64 (k : Nat) ∧ RowC LX LU LA wr wx)
      case first =>
        obtain ⟨W0, hW0⟩ : ∃ W0, wr.alloc (.cells #[.string ⟨nm.toArray⟩, .slice a1 n1 c1, .slice a2 n2 c2] 40) = W0 := ⟨_, rfl⟩
        have y0 : W0.heap[wr.heap.size]? = some (.cells #[.string ⟨nm.toArray⟩, .slice a1 n1 c1, .slice a2 n2 c2] 40 (0, 0)) := by rw [← hW0]; exact heap_alloc_new wr _
        have hb00 : Below wr.heap.size wr W0 := by rw [← hW0]; exact (Below.refl _ wr).alloc (Nat.le_refl _) _
        rw [hW0]
        clear hW0
        have z0 : wr.heap.size < W0.heap.size := obj_lt y0
        obtain ⟨d0, d1, d2⟩ := obj3 y0
        have k0 := obj_free y0 0
        have k1 := obj_free y0 1
        have k2 := obj_free y0 2
        have e0 : W0.drew.cell? ⟨wr.heap.size, 0, none⟩ = _ := d0
        have e1 : W0.drew.cell? ⟨wr.heap.size, 1, none⟩ = _ := d1
        have e2 : W0.drew.cell? ⟨wr.heap.size, 2, none⟩ = _ := d2
        have HY := Lib.hid y0
        clear y0
        go_region_law (first
          | (go_simp; go_at_call 38; (with_reducible refine (HLo.out _).mono ?_); rintro en w5 ⟨rfl, hb5⟩; have hbW : Below W0.heap.size W0 w5 := (by first | exact hbW.trans (hb5.mono hbW.size) | exact (Below.refl _ W0).drew.trans hb5); have e0 := (hbW.cell (p := ⟨wr.heap.size, 0, none⟩) z0).trans d0; have e1 := (hbW.cell (p := ⟨wr.heap.size, 1, none⟩) z0).trans d1; have e2 := (hbW.cell (p := ⟨wr.heap.size, 2, none⟩) z0).trans d2; have f0 := (hbW.frozen (p := ⟨wr.heap.size, 0, none⟩) z0).trans k0; have f1 := (hbW.frozen (p := ⟨wr.heap.size, 1, none⟩) z0).trans k1; have f2 := (hbW.frozen (p := ⟨wr.heap.size, 2, none⟩) z0).trans k2)
          | (go_simp; go_at_call 91; (with_reducible refine (HLu.out _ (hb00.trans (hbW.mono (Nat.le_of_lt z0)))).mono ?_); rintro en w6 ⟨gA, cA, rfl, rA, hb6, gA0⟩; have hbW := hbW.trans (hb6.mono hbW.size); have e0 := (hbW.cell (p := ⟨wr.heap.size, 0, none⟩) z0).trans d0; have e1 := (hbW.cell (p := ⟨wr.heap.size, 1, none⟩) z0).trans d1; have e2 := (hbW.cell (p := ⟨wr.heap.size, 2, none⟩) z0).trans d2; have f0 := (hbW.frozen (p := ⟨wr.heap.size, 0, none⟩) z0).trans k0; have f1 := (hbW.frozen (p := ⟨wr.heap.size, 1, none⟩) z0).trans k1; have f2 := (hbW.frozen (p := ⟨wr.heap.size, 2, none⟩) z0).trans k2)
          | (go_simp; go_at_call 91; (with_reducible refine (HLa.out _ (hb00.trans (hbW.mono (Nat.le_of_lt z0)))).mono ?_); rintro en w7 ⟨gB, cB, rfl, rB, hb7, gB0⟩; have hbW := hbW.trans (hb7.mono hbW.size); have rA := ownsRow_below rA hb7; have e0 := (hbW.cell (p := ⟨wr.heap.size, 0, none⟩) z0).trans d0; have e1 := (hbW.cell (p := ⟨wr.heap.size, 1, none⟩) z0).trans d1; have e2 := (hbW.cell (p := ⟨wr.heap.size, 2, none⟩) z0).trans d2; have f0 := (hbW.frozen (p := ⟨wr.heap.size, 0, none⟩) z0).trans k0; have f1 := (hbW.frozen (p := ⟨wr.heap.size, 1, none⟩) z0).trans k1; have f2 := (hbW.frozen (p := ⟨wr.heap.size, 2, none⟩) z0).trans k2))
        all_goals
          have hs5 : W0.heap.size ≤ w5.heap.size := hb5.size
          have hs6 : W0.heap.size ≤ w6.heap.size := Nat.le_trans hs5 hb6.size
          have HR := Lib.hid (rowC_mk (LX := LX) (MA := LU) (MB := LA) hb00 z0 HY.out hbW hs5 hs6 rA rB)
          clear hbW rA rB
          go_wp2_with fail
          go_meet
          exact ⟨rfl, rfl, HR.out⟩
      case rest =>
        obtain ⟨rfl, rfl, hR⟩ := hcut
        obtain ⟨gA, cA, gB, cB, y1, hb5r, rA, rB⟩ := hR
        have gg := obj_below HI.out.1 hb5r hgrs
        have nm6 := nmAt_below HI.out.2.1 hb5r
        have row6 := ownsRow_below HI.out.2.2.1 hb5r
        have ch6 : Chg (fun k => k = g) w wc := HI.out.2.2.2.2.2.1.below (hb5r.mono hsr)
        have all6 : ClAll wc w.heap.size (TL.take k) L := clAll_chg HI.out.2.2.2.2.2.2.2 (Chg.ofBelow (S := fun _ => False) hb5r) (fun _ _ _ h => h)
        have hs6 := hb5r.size
        obtain ⟨c0, c1', c2'⟩ := obj3 y1
        have c0' : wc.drew.cell? ⟨wr.heap.size, 0, none⟩ = _ := c0
        have hyl0 : wr.heap.size < wc.heap.size := obj_lt y1
        have HZ := Lib.hid (And.intro y1 (And.intro gg (And.intro nm6 (And.intro row6 (And.intro ch6 (And.intro hs6 (And.intro all6 (And.intro (ownsRow_base rA hsr) (ownsRow_base rB hsr)))))))))
        clear y1 gg nm6 row6 ch6 all6 rA rB hb5r
        go_wp2
        go_still_tail 5, (by kernel_rfl)
        change wpList _ _ _ _ _ wc.drew
        clear c0 c1' c2' c0'
        go_wp2_with fail
        refine (add_any g 2 #[m1, v1, mv, .slice ra k rc] 77 mv ((TL.take k).map (·.1)) LX wc.drew HZ.out.2.1 rfl (nmAt_chg (S := fun _ => False) HZ.out.2.2.1 (Chg.refl _ wc).drew (fun _ _ h => h)) (by simp; omega) HLL.out).mono ?_
        rintro en w8 ⟨hhit, hnew⟩
        have HAd := Lib.hid (And.intro hhit hnew)
        clear hhit hnew
        have HkN := Lib.hid (show ((TL.map (·.1))[k]'(by simpa using HT.out.2.2)) = LX by simp [HT.out.2.1])
        cases hq : ixL ((TL.take k).map (·.1)) LX with
        | some i =>
          obtain ⟨rfl, rfl⟩ := HAd.out.1 i hq
          have HQ := Lib.hid (HD.out (nodup_take_not (by simpa using HT.out.2.2) HkN.out (by rw [← List.map_take]; exact hq)))
          clear hq
          go_wp2
          go_ret
          exact fillC_mk (HFF.out.trans HQ.out) (by decide) HZ.out.2.2.2.2.1.drew
        | none =>
          obtain ⟨b, rfl, g8, nm8, hmb, ch8⟩ := HAd.out.2 hq
          have g8' : w8.heap[g]? = some (.cells #[m1, v1, .map (some b), .slice ra k rc] 77 (0, 0)) := g8
          have hHne : ∀ j, mv = .map (some j) → j ≠ wr.heap.size := fun j hj => by have h3 := HZ.out.2.2.1; subst hj; exact nmAt_ne h3 HZ.out.1
          have hSm : ∀ j, w.heap.size ≤ j → StrBlk wc.drew j → ¬ (fun k => k = g ∨ mv = .map (some k)) j := fun j hj hs => by
            rintro (h | h)
            · omega
            · have h3 := HZ.out.2.2.1
              subst h
              exact strBlk_ne_map h3 hs rfl
          have y8 := obj_chg (w := wc.drew) HZ.out.1 ch8 (by
            rintro (h | h)
            · omega
            · exact hHne _ h rfl)
          have row8 := ownsRow_chg (w := wc.drew) (ownsRow_heap HZ.out.2.2.2.1 rfl) ch8 (fun j hj => by
            rintro (h | h)
            · have := (HI.out.2.2.1.lt j hj).1; omega
            · have h3 := HZ.out.2.2.1
              subst h
              exact row_ne_map HZ.out.2.2.2.1 h3 j hj rfl)
          have all8 : ClAll w8 w.heap.size (TL.take k) L := clAll_chg (w := wc.drew) (clAll_chg HZ.out.2.2.2.2.2.2.1 ((Chg.refl (fun _ => False) wc).drew) (fun _ _ _ h => h)) ch8 hSm
          have rA8 := ownsRow_chg (w := wc.drew) (ownsRow_heap HZ.out.2.2.2.2.2.2.2.1 rfl) ch8 (fun j hj => hSm j (strBlk_row HZ.out.2.2.2.2.2.2.2.1 j hj).1 (strBlk_row HZ.out.2.2.2.2.2.2.2.1 j hj).2)
          have rB8 := ownsRow_chg (w := wc.drew) (ownsRow_heap HZ.out.2.2.2.2.2.2.2.2 rfl) ch8 (fun j hj => hSm j (strBlk_row HZ.out.2.2.2.2.2.2.2.2 j hj).1 (strBlk_row HZ.out.2.2.2.2.2.2.2.2 j hj).2)
          have ch9 : Chg (fun k => k = g) w w8 := HZ.out.2.2.2.2.1.drew.trans ch8 (fun i hi h => by
            rcases h with h | h
            · exact h
            · have := HI.out.2.2.2.1 _ h; omega)
          have hmb9 : w.heap.size ≤ b := by
            rcases hmb with h | ⟨_, h⟩
            · exact HI.out.2.2.2.1 _ h
            · have h5 : wc.heap.size ≤ b := h
              omega
          have nd9 := nodup_snoc HI.out.2.2.2.2.1 hq
          have hs8 := ch8.size
          have hs8' : wc.heap.size ≤ w8.heap.size := hs8
          have hsz8 : w.heap.size ≤ w8.heap.size := ch9.size
          have hgw : g < w8.heap.size := obj_lt g8'
          obtain ⟨d0, d1, d2⟩ := obj3 y8
          have p1 := (obj4 g8').2.2.2
          have hyl : wr.heap.size < w8.heap.size := obj_lt y8
          have HRg := Lib.hid (show ∀ j, (Value.slice ra k rc).ownBlock = some j → j ≠ g from fun j hj => by have := (row8.lt j hj).1; omega)
          have H8 := Lib.hid (And.intro g8' (And.intro nm8 (And.intro row8 (And.intro ch9 (And.intro hmb9 (And.intro nd9 (And.intro all8 (And.intro rA8 rB8))))))))
          clear g8 g8' nm8 hmb ch8 hHne y8 row8 ch9 hmb9 nd9 hq hs8 all8 rA8 rB8 hSm
          go_wp2
          go_region_law (refine step_pushc rfl (.tmp 36) (.tmp 38) 30 40 rfl w.heap.size 3 64 _ Tryz.sninfo40 Tryz.underlying30 rfl (by decide) w8.drew [_, _, _] rfl rfl (by intro u hu; simp at hu; rcases hu with rfl | rfl | rfl <;> rfl) (.slice ra k rc) k (clcs L) rfl _ rfl rfl (ownsRow_heap H8.out.2.2.1 rfl) (by unfold maxLen; omega) (by omega) hsz8 ?_; intro v' w' h1 h2 h3; obtain ⟨na, nc, rfl⟩ := ownsRow_slice h1; have g9 := obj_chg (w := w8.drew) H8.out.1 h2 (fun e => HRg.out _ e.symm rfl); have q1 := obj_free g9 3; have q2 := (obj4 g9).2.2.2)
          all_goals
            have hs9 := h2.size
            have hs9' : w8.heap.size ≤ w'.heap.size := hs9
            have g9s := obj_set g9 3 (.slice na (k + 1) nc)
            have ch10 : Chg (fun j => j = g) w (w'.setCell ⟨g, 3, none⟩ (.slice na (k + 1) nc)) := (H8.out.2.2.2.1.drew.trans h2 (fun i hi h => by have := (H8.out.2.2.1.lt i h.symm).1; omega)).setCell (p := ⟨g, 3, none⟩) (fun _ => rfl) _
            have chS : Chg (fun j => j = g) w' (w'.setCell ⟨g, 3, none⟩ (.slice na (k + 1) nc)) := (Chg.refl (fun j => j = g) w').setCell (p := ⟨g, 3, none⟩) (fun _ => rfl) _
            have nm10 := nmAt_chg (nmAt_chg (w := w8.drew) (nmAt_chg (S := fun _ => False) H8.out.2.1 (Chg.refl _ w8).drew (fun _ _ h => h)) h2 (fun j hj e => by injection hj with hj; injection hj with hj; exact row_ne_map H8.out.2.2.1 H8.out.2.1 j e.symm hj.symm)) chS (fun j hj e => by injection hj with hj; injection hj with hj; have e' : j = g := e; have := H8.out.2.2.2.2.1; omega)
            have row10 := ownsRow_chg h1 chS (fun j hj e => by have := (h1.lt j hj).1; omega)
            have hB2 : ∀ j, w.heap.size ≤ j → StrBlk w8.drew j → ¬ (fun k_1 => some k_1 = (Value.slice ra k rc).ownBlock) j := fun j _ hs e => strBlk_ne_row H8.out.2.2.1 hs e.symm
            have hB3 : ∀ j, w.heap.size ≤ j → StrBlk w' j → ¬ (fun k_1 => k_1 = g) j := fun j hj _ e => by have e' : j = g := e; omega
            have all10 := clAll_chg (clAll_chg (w := w8.drew) (clAll_chg H8.out.2.2.2.2.2.2.1 ((Chg.refl (fun _ => False) w8).drew) (fun _ _ _ h => h)) h2 hB2) chS hB3
            have rA9 := ownsRow_chg (w := w8.drew) (ownsRow_heap H8.out.2.2.2.2.2.2.2.1 rfl) h2 (fun j hj => hB2 j (strBlk_row H8.out.2.2.2.2.2.2.2.1 j hj).1 (strBlk_row H8.out.2.2.2.2.2.2.2.1 j hj).2)
            have rB9 := ownsRow_chg (w := w8.drew) (ownsRow_heap H8.out.2.2.2.2.2.2.2.2 rfl) h2 (fun j hj => hB2 j (strBlk_row H8.out.2.2.2.2.2.2.2.2 j hj).1 (strBlk_row H8.out.2.2.2.2.2.2.2.2 j hj).2)
            have rA10 := ownsRow_chg rA9 chS (fun j hj => hB3 j (strBlk_row rA9 j hj).1 (strBlk_row rA9 j hj).2)
            have rB10 := ownsRow_chg rB9 chS (fun j hj => hB3 j (strBlk_row rB9 j hj).1 (strBlk_row rB9 j hj).2)
            have all11 := clAll_snoc all10 (show ClOne _ w.heap.size (LX, LU, LA) (LX, .slice (some ⟨gA, 0, none⟩) LU.length cA, .slice (some ⟨gB, 0, none⟩) LA.length cB) from ⟨rfl, gA, cA, gB, cB, rfl, rfl, rA10, rB10⟩)
            have HE := Lib.hid (And.intro g9s (And.intro nm10 (And.intro row10 (And.intro ch10 all11))))
            clear g9 q1 q2 h1 h2 h3 hs9 hs9' g9s ch10 chS nm10 row10 hB2 hB3 all10 rA9 rB9 rA10 rB10 all11
            go_wp2
            refine ⟨⟨k + 1, .map (some b), .slice na (k + 1) nc, L ++ [(LX, .slice (some ⟨gA, 0, none⟩) LU.length cA, .slice (some ⟨gB, 0, none⟩) LA.length cB)], by omega, by go_num, HE.out.1, ?_, ?_, ?_, fun j hj => by injection hj with hj; injection hj with hj; rw [← hj]; exact H8.out.2.2.2.2.1, ?_, HE.out.2.2.2.1⟩, by simp [intOf]; omega⟩
            · rw [HT.out.1, List.map_append]; exact HE.out.2.1
            · rw [clcs_append]; exact HE.out.2.2.1
            · rw [HT.out.1]; exact HE.out.2.2.2.2
            · rw [HT.out.1, List.map_append]; exact H8.out.2.2.2.2.2.1
    · obtain rfl : k = n := by omega
      have hTe : TL.take k = TL := List.take_of_length_le (by rw [HTLl.out]; exact Nat.le_refl _)
      rw [hTe] at hnm hnd hall
      obtain ⟨ra, rc, rfl⟩ := ownsRow_slice hrow
      have H := Lib.hid (And.intro hgr (And.intro hnm (And.intro hrow (And.intro (HO.out hnd) (And.intro hch hall)))))
      clear hgr hnm hrow hnd hch hTe hmb hall
      go_wp2
      go_ret
      have e0 : scFC T = 0 := HFF.out.trans H.out.2.2.2.1
      refine ⟨by rw [e0]; rfl, H.out.2.2.2.2.1, fun _ => ⟨mv, ra, k, rc, H.out.1, by rw [HTL.out]; exact H.out.2.1, ?_⟩⟩
      rw [HTL.out]
      have hr := H.out.2.2.1
      have hk := HTLl.out
      subst hk
      exact clAt_owns hr H.out.2.2.2.2.2
end Go.Proofs.YtcfckgpjdaadeaaGreatDoor
