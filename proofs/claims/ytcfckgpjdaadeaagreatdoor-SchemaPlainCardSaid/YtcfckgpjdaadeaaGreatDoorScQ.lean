/- The document's class of a name, told with where its lists lie. -/
import Derived.Test.YtcfckgpjdaadeaaGreatDoorScCD
namespace Go.Proofs.YtcfckgpjdaadeaaGreatDoor
set_option linter.unusedSimpArgs false
set_option linter.unusedVariables false
open Go Go.RowKit Go.Proofs.BerK Go.Proofs.MemK Go.Proofs.UtfK

def ClF (o : Option Cl) (w : World) (en : Ending) (w' : World) : Prop :=
  (o = none ∧ en = .returned (.tuple #[.agg #[.string ⟨#[]⟩, .slice none 0 0, .slice none 0 0], .bool false]) ∧ Below w.heap.size w w') ∨
  (∃ c, o = some c ∧ ∃ am cm ay cy, en = .returned (.tuple #[.agg #[.string ⟨c.1.toArray⟩, .slice am c.2.1.length cm, .slice ay c.2.2.length cy], .bool true]) ∧ (TxR w' (.slice am c.2.1.length cm) c.2.1 ∧ TxR w' (.slice ay c.2.2.length cy) c.2.2 ∧ SlOk (.slice am c.2.1.length cm) ∧ SlOk (.slice ay c.2.2.length cy) ∧ (∀ g o, am = some ⟨g, o, none⟩ → w.heap.size ≤ g) ∧ ∀ g o, ay = some ⟨g, o, none⟩ → w.heap.size ≤ g) ∧ Below w.heap.size w w')
theorem slOk_owns {w : World} {B : Nat} {e : TypeId} {size : Nat} {v : Value} {n : Nat} {xs : List Value} (h : w.ownsRow B e size v n xs) : SlOk v := by
  rcases h.2 with ⟨rfl, _⟩ | ⟨g, cap, cur, rfl, _⟩
  · exact .inl rfl
  · exact .inr ⟨_, _, _, rfl⟩
set_option maxHeartbeats 6400000 in
set_option maxRecDepth 100000 in
theorem rclass9f_any (T : List Cl) (tv cv : Value) (s : List UInt8) (w : World) (h : ClAt w cv T) (hln : T.length ≤ 1000000) (hb : ∀ t ∈ T, t.1.length ≤ 140737488355328) (hbm : ∀ t ∈ T, t.2.1.length ≤ 1000000 ∧ t.2.2.length ≤ 1000000 ∧ (∀ x ∈ t.2.1, x.length ≤ 140737488355328) ∧ ∀ x ∈ t.2.2, x.length ≤ 140737488355328) (hs : s.length ≤ 140737488355328) :
    Calls Tryz.prog 15 #[.agg #[tv, cv], .string ⟨s.toArray⟩] w (ClF (scC T s) w) := by
  obtain ⟨a, c, rfl, hcells⟩ := h
  have HM := Lib.hid hcells
  have HBd := Lib.hid hb
  have HBm := Lib.hid hbm
  have HY := Lib.hid (scC_at (C := T) (s := s))
  have HN := Lib.hid (scC_no (C := T) (s := s))
  have HLs := Lib.hid (fun w => show Calls Tryz.prog 39 #[.string ⟨s.toArray⟩] w (StrPost (lowL s) w) from rlow5_any ⟨s.toArray⟩ hs w)
  obtain ⟨LS, hLS⟩ : ∃ x, lowL s = x := ⟨_, rfl⟩
  rw [hLS] at HLs HY HN
  obtain ⟨R, hR⟩ : ∃ R, scC T s = R := ⟨_, rfl⟩
  rw [hR] at HY HN ⊢
  obtain ⟨n, hn⟩ : ∃ n, T.length = n := ⟨_, rfl⟩
  have HL := Lib.hid hn
  rw [hn] at hln ⊢
  have hb0 : Below w.heap.size w ((w.alloc (.cells #[tv, .slice a n c] 32)).alloc (.cells #[.string ⟨#[]⟩, .slice none 0 0, .slice none 0 0] 40)) := ((Below.refl _ w).alloc (Nat.le_refl _) _).alloc (by simp) _
  have hx0 : ((w.alloc (.cells #[tv, .slice a n c] 32)).alloc (.cells #[.string ⟨#[]⟩, .slice none 0 0, .slice none 0 0] 40)).heap[w.heap.size]? = some (.cells #[tv, .slice a n c] 32 (0, 0)) := obj_alloc (heap_alloc_new w _) _
  have hx1 : ((w.alloc (.cells #[tv, .slice a n c] 32)).alloc (.cells #[.string ⟨#[]⟩, .slice none 0 0, .slice none 0 0] 40)).heap[w.heap.size + 1]? = some (.cells #[.string ⟨#[]⟩, .slice none 0 0, .slice none 0 0] 40 (0, 0)) := by
    have := heap_alloc_new (w.alloc (.cells #[tv, .slice a n c] 32)) (.cells #[.string ⟨#[]⟩, .slice none 0 0, .slice none 0 0] 40)
    rw [World.size_alloc] at this
    exact this
  have hsz : ((w.alloc (.cells #[tv, .slice a n c] 32)).alloc (.cells #[.string ⟨#[]⟩, .slice none 0 0, .slice none 0 0] 40)).heap.size = w.heap.size + 2 := by simp
  obtain ⟨W1, hW1⟩ : ∃ W1, (w.alloc (.cells #[tv, .slice a n c] 32)).alloc (.cells #[.string ⟨#[]⟩, .slice none 0 0, .slice none 0 0] 40) = W1 := ⟨_, rfl⟩
  have HW1 := Lib.hid hW1
  rw [hW1] at hb0 hx0 hx1 hsz
  have HX := Lib.hid (And.intro hx0 (And.intro hx1 (And.intro hb0 hsz)))
  clear hcells hR hn hb hbm hs hLS hW1 hb0 hx0 hx1 hsz
  go_enter Tryz.func15, Tryz.ntmps15
  go_wp2
  rw [HW1.out]
  go_loopw [6] (fun v wr => ∃ i : Nat, i ≤ n ∧ v = .int .i64 (i : Nat) ∧ Below (w.heap.size + 2) W1 wr ∧ ∀ j (hj : j < T.length), j < i → (lowL T[j].1 == LS) = false) (fun v _ => n - (intOf v).toNat)
  case atStart => exact ⟨0, by omega, rfl, Below.refl _ _, fun j _ h => by omega⟩
  case round =>
    obtain ⟨i, hi, rfl, hb, hall⟩ := hrel
    have hsr := hb.size
    have hs1 := HX.out.2.2.2
    have x0 := obj_below HX.out.1 hb (by omega)
    have x1 := obj_below HX.out.2.1 hb (by omega)
    obtain ⟨b0, b1⟩ := obj2s x0
    by_cases hlt : i < n
    · have hil : (i : Int) < (n : Int) := by omega
      have him : i < T.length := by rw [HL.out]; exact hlt
      obtain ⟨g, o, mu, ma, rfl, hg, e0w, e1w, e2w, htm, hty, _⟩ := HM.out i him
      have hbw := HX.out.2.2.1.trans (hb.mono (by omega))
      have e0 := (hbw.cell (p := ⟨g, _, none⟩) hg).trans e0w
      have e1 := (hbw.cell (p := ⟨g, _, none⟩) hg).trans e1w
      have e2 := (hbw.cell (p := ⟨g, _, none⟩) hg).trans e2w
      have zg := Nat.lt_of_lt_of_le hg hbw.size
      obtain ⟨mua, muc, hmu, _⟩ := id htm
      obtain ⟨maa, mac, hma, _⟩ := id hty
      obtain ⟨n1, hn1⟩ : ∃ x, T[i].2.1.length = x := ⟨_, rfl⟩
      obtain ⟨n2, hn2⟩ : ∃ x, T[i].2.2.length = x := ⟨_, rfl⟩
      rw [hn1] at hmu
      rw [hn2] at hma
      subst hmu hma
      have HTm := Lib.hid (And.intro (txR_below htm hbw) (txR_below hty hbw))
      clear hn1 hn2
      have hbd := HBd.out _ (List.getElem_mem him)
      have hbdm := HBm.out _ (List.getElem_mem him)
      have HYi := Lib.hid (fun h => HY.out i him hall h)
      have HAi := Lib.hid (fun (hx : (lowL T[i].1 == LS) = false) j (hj : j < T.length) (hji : j < i + 1) => (show (lowL T[j].1 == LS) = false by
        by_cases hjk : j = i
        · subst hjk; exact hx
        · exact hall j hj (by omega)))
      obtain ⟨nm, hnm⟩ : ∃ x, T[i].1 = x := ⟨_, rfl⟩
      obtain ⟨ml, hml⟩ : ∃ x, T[i].2.1 = x := ⟨_, rfl⟩
      obtain ⟨yl, hyl⟩ : ∃ x, T[i].2.2 = x := ⟨_, rfl⟩
      rw [hnm] at e0 hbd
      rw [hml, hyl] at HTm hbdm
      have HLn := Lib.hid (fun w => show Calls Tryz.prog 39 #[.string ⟨nm.toArray⟩] w (StrPost (lowL nm) w) from rlow5_any ⟨nm.toArray⟩ hbd w)
      have HLm := Lib.hid (fun w' (hb : Below wr.heap.size wr w') => rlower9_any ml (.slice mua n1 muc) w' (txR_below HTm.out.1 hb) hbdm.1 hbdm.2.2.1)
      have HLy := Lib.hid (fun w' (hb : Below wr.heap.size wr w') => rlower9_any yl (.slice maa n2 mac) w' (txR_below HTm.out.2 hb) hbdm.2.1 hbdm.2.2.2)
      obtain ⟨LX, hLX⟩ : ∃ x, lowL nm = x := ⟨_, rfl⟩
      obtain ⟨LM, hLM⟩ : ∃ x, ml.map lowL = x := ⟨_, rfl⟩
      obtain ⟨LY, hLY⟩ : ∃ x, yl.map lowL = x := ⟨_, rfl⟩
      have HE := Lib.hid (show lowL T[i].1 = LX ∧ T[i].2.1.map lowL = LM ∧ T[i].2.2.map lowL = LY from ⟨by rw [hnm, hLX], by rw [hml, hLM], by rw [hyl, hLY]⟩)
      rw [hLX] at HLn
      rw [hLM] at HLm
      rw [hLY] at HLy
      have HB := Lib.hid (And.intro hb (And.intro x0 x1))
      clear hb hall x0 x1 e0w e1w e2w htm hty hnm hml hyl hLX hLM hLY hbd hbdm hbw HTm
      go_wp2_with fail
      clear e0 e1 e2 b0 b1
      refine (HLn.out _).mono ?_
      rintro en w5 ⟨rfl, hb5⟩
      obtain ⟨y7, hb57⟩ := box3s hb5
      obtain ⟨c0, c1, c2⟩ := obj3 y7
      have hs5 := hb57.size
      have HB5 := Lib.hid (And.intro (HB.out.1.trans (hb57.mono (by omega))) (And.intro (obj_below HB.out.2.2 hb57 (by omega)) (And.intro y7 hb57)))
      clear hb5 hb57 y7
      go_wp2_with fail
      refine (HLs.out _).mono ?_
      rintro en w6 ⟨rfl, hb6⟩
      have y7 := obj_below HB5.out.2.2.1 hb6 (obj_lt HB5.out.2.2.1)
      have y1 := obj_below HB5.out.2.1 hb6 (by omega)
      have hs6 := hb6.size
      have hw6 := HB5.out.2.2.2.trans (hb6.mono hs5)
      have HB6 := Lib.hid (And.intro (HB5.out.1.trans (hb6.mono (by omega))) (And.intro y1 (And.intro y7 hw6)))
      have z7 : wr.heap.size < w6.heap.size := obj_lt y7
      have z1 : w.heap.size + 1 < w6.heap.size := by omega
      clear hb6 c0 c1 c2 hw6
      cases hq : (LX == LS)
      · have HI := Lib.hid (HAi.out (by rw [HE.out.1]; exact hq))
        clear y7 y1
        go_wp2
        exact ⟨⟨i + 1, by omega, by go_num, HB6.out.1, HI.out⟩, by simp [intOf]; omega⟩
      · have HR := Lib.hid (show R = some (LX, LM, LY) by rw [HYi.out (by rw [HE.out.1]; exact hq), HE.out.1, HE.out.2.1, HE.out.2.2])
        obtain ⟨c0, c1, c2⟩ := obj3 y7
        have r0 := (obj3 y1).1
        have r1 := (obj3 y1).2.1
        have r2 := (obj3 y1).2.2
        have f0 := obj_free y1 0
        have f1 := obj_free y1 1
        have f2 := obj_free y1 2
        have hbW : Below w6.heap.size w6 w6 := Below.refl _ _
        have hne : wr.heap.size ≠ w.heap.size + 1 := by omega
        clear y7 y1
        go_wp2_with fail
        go_region_held3 (fun w' => w'.cell? ⟨wr.heap.size, 0, none⟩ = some (.string ⟨nm.toArray⟩) ∧ w'.cell? ⟨wr.heap.size, 1, none⟩ = some (.slice mua n1 muc) ∧ w'.cell? ⟨wr.heap.size, 2, none⟩ = some (.slice maa n2 mac)) (first | exact ⟨e0, e1, e2⟩ | exact ⟨c0, c1, c2⟩ | exact ⟨(cell_other3 hne _ _ _ _ _ _ _).trans e0, (cell_other3 hne _ _ _ _ _ _ _).trans e1, (cell_other3 hne _ _ _ _ _ _ _).trans e2⟩ | go_keep)
          (first | (go_at_call 39; (with_reducible refine (HLn.out _).mono ?_); rintro en w7 ⟨rfl, hb7⟩; have hbW : Below w6.heap.size w6 w7 := (by first | exact hbW.trans (hb7.mono hbW.size) | exact (Below.refl _ w6).drew.trans hb7); have e0 := (hbW.cell (p := ⟨wr.heap.size, 0, none⟩) z7).trans c0; have e1 := (hbW.cell (p := ⟨wr.heap.size, 1, none⟩) z7).trans c1; have e2 := (hbW.cell (p := ⟨wr.heap.size, 2, none⟩) z7).trans c2; have s0 := (hbW.cell (p := ⟨w.heap.size + 1, 0, none⟩) z1).trans r0; have s1 := (hbW.cell (p := ⟨w.heap.size + 1, 1, none⟩) z1).trans r1; have s2 := (hbW.cell (p := ⟨w.heap.size + 1, 2, none⟩) z1).trans r2; have t0 := (hbW.frozen (p := ⟨w.heap.size + 1, 0, none⟩) z1).trans f0; have t1 := (hbW.frozen (p := ⟨w.heap.size + 1, 1, none⟩) z1).trans f1; have t2 := (hbW.frozen (p := ⟨w.heap.size + 1, 2, none⟩) z1).trans f2; have HbW := Lib.hid (HB6.out.2.2.2.trans (hbW.mono HB6.out.2.2.2.size))) | (go_at_call 41; (with_reducible refine (HLm.out _ (by first | exact HbW.out | exact HB6.out.2.2.2.drew)).mono ?_); rintro en w7 ⟨am, cm, rfl, ho7, hb7⟩; have hszM := hbW.size; have HMo := Lib.hid (And.intro (slOk_owns ho7) (fun g o (e : am = some ⟨g, o, none⟩) => (show w.heap.size ≤ g by have h1 := (ho7.lt g (by rw [e]; rfl)).1; omega))); have HMg := Lib.hid (fun g o (e : am = some ⟨g, o, none⟩) => (show g ≠ w.heap.size + 1 by have h1 := (ho7.lt g (by rw [e]; rfl)).1; omega)); have hbW : Below w6.heap.size w6 w7 := (by first | exact hbW.trans (hb7.mono hbW.size) | exact (Below.refl _ w6).drew.trans hb7); have e0 := (hbW.cell (p := ⟨wr.heap.size, 0, none⟩) z7).trans c0; have e1 := (hbW.cell (p := ⟨wr.heap.size, 1, none⟩) z7).trans c1; have e2 := (hbW.cell (p := ⟨wr.heap.size, 2, none⟩) z7).trans c2; have s0 := (hbW.cell (p := ⟨w.heap.size + 1, 0, none⟩) z1).trans r0; have s1 := (hbW.cell (p := ⟨w.heap.size + 1, 1, none⟩) z1).trans r1; have s2 := (hbW.cell (p := ⟨w.heap.size + 1, 2, none⟩) z1).trans r2; have t0 := (hbW.frozen (p := ⟨w.heap.size + 1, 0, none⟩) z1).trans f0; have t1 := (hbW.frozen (p := ⟨w.heap.size + 1, 1, none⟩) z1).trans f1; have t2 := (hbW.frozen (p := ⟨w.heap.size + 1, 2, none⟩) z1).trans f2; have HbW := Lib.hid (HB6.out.2.2.2.trans (hbW.mono HB6.out.2.2.2.size)); have HTM := Lib.hid (txR_owns ho7)) | (go_at_call 41; (with_reducible refine (HLy.out _ (by first | exact HbW.out | exact HB6.out.2.2.2.drew)).mono ?_); rintro en w7 ⟨ay, cy, rfl, ho7, hb7⟩; have hszY := hbW.size; have HYo := Lib.hid (And.intro (slOk_owns ho7) (fun g o (e : ay = some ⟨g, o, none⟩) => (show w.heap.size ≤ g by have h1 := (ho7.lt g (by rw [e]; rfl)).1; omega))); have HYg := Lib.hid (fun g o (e : ay = some ⟨g, o, none⟩) => (show g ≠ w.heap.size + 1 by have h1 := (ho7.lt g (by rw [e]; rfl)).1; omega)); have HTM2 := Lib.hid (txR_below HTM.out hb7); have hbW : Below w6.heap.size w6 w7 := (by first | exact hbW.trans (hb7.mono hbW.size) | exact (Below.refl _ w6).drew.trans hb7); have e0 := (hbW.cell (p := ⟨wr.heap.size, 0, none⟩) z7).trans c0; have e1 := (hbW.cell (p := ⟨wr.heap.size, 1, none⟩) z7).trans c1; have e2 := (hbW.cell (p := ⟨wr.heap.size, 2, none⟩) z7).trans c2; have s0 := (hbW.cell (p := ⟨w.heap.size + 1, 0, none⟩) z1).trans r0; have s1 := (hbW.cell (p := ⟨w.heap.size + 1, 1, none⟩) z1).trans r1; have s2 := (hbW.cell (p := ⟨w.heap.size + 1, 2, none⟩) z1).trans r2; have t0 := (hbW.frozen (p := ⟨w.heap.size + 1, 0, none⟩) z1).trans f0; have t1 := (hbW.frozen (p := ⟨w.heap.size + 1, 1, none⟩) z1).trans f1; have t2 := (hbW.frozen (p := ⟨w.heap.size + 1, 2, none⟩) z1).trans f2; have HbW := Lib.hid (HB6.out.2.2.2.trans (hbW.mono HB6.out.2.2.2.size)); have HTY := Lib.hid (txR_owns ho7)))
        have y1 := obj_below HB6.out.2.1 hbW z1
        have HF := Lib.hid (And.intro (txR_other3 HTM2.out HMg.out 0 1 2 (.string ⟨LX.toArray⟩) (.slice am LM.length cm) (.slice ay LY.length cy)) (And.intro (txR_other3 HTY.out HYg.out 0 1 2 (.string ⟨LX.toArray⟩) (.slice am LM.length cm) (.slice ay LY.length cy)) (And.intro (HX.out.2.2.1.trans ((HB6.out.1.trans (hbW.mono (by omega))).mono (by omega))) y1)))
        clear e0 e1 e2 s0 s1 s2 t0 t1 t2 hbW hb7 ho7 y1
        go_wp2
        obtain ⟨j0, j1, j2⟩ := obj3 (obj_set3 HF.out.2.2.2 (.string ⟨LX.toArray⟩) (.slice am LM.length cm) (.slice ay LY.length cy))
        refine bodyPost_ret (v := .tuple #[.agg #[.string ⟨LX.toArray⟩, .slice am LM.length cm, .slice ay LY.length cy], .bool true]) (by simp [results, Tryz.results15, go_sem, *]) rfl ?_
        exact .inr ⟨(LX, LM, LY), HR.out, am, cm, ay, cy, rfl, ⟨HF.out.1, HF.out.2.1, HMo.out.1, HYo.out.1, HMo.out.2, HYo.out.2⟩, below_set3 HF.out.2.2.1 (by omega) _ _ _⟩
    · obtain rfl : i = n := by omega
      have HR := Lib.hid (HN.out (fun j hj => hall j hj (by rw [← HL.out]; exact hj)))
      have r0 := (obj3 x1).1
      have r1 := (obj3 x1).2.1
      have r2 := (obj3 x1).2.2
      have f0 := obj_free x1 0
      have f1 := obj_free x1 1
      have f2 := obj_free x1 2
      have HB := Lib.hid (And.intro (HX.out.2.2.1.trans (hb.mono (by omega))) x1)
      clear hb hall x0 x1
      go_wp2
      obtain ⟨j0, j1, j2⟩ := obj3 (obj_set3 HB.out.2 (.string ⟨#[]⟩) (.slice none 0 0) (.slice none 0 0))
      refine bodyPost_ret (v := .tuple #[.agg #[.string ⟨#[]⟩, .slice none 0 0, .slice none 0 0], .bool false]) (by simp [results, Tryz.results15, go_sem, *]) rfl ?_
      exact .inl ⟨HR.out, rfl, below_set3 HB.out.1 (by omega) _ _ _⟩
end Go.Proofs.YtcfckgpjdaadeaaGreatDoor
