/- The code's parts as small letters, for all parts. -/
import Derived.Test.YtlopmppiihhnnaaGreatDoorRuF
namespace Go.Proofs.YtlopmppiihhnnaaGreatDoor
set_option linter.unusedSimpArgs false
set_option linter.unusedVariables false
open Go Go.RowKit Go.Proofs.BerK Go.Proofs.MemK Go.Proofs.UtfK

def LwPost (h : List UInt8) (ms : List (List UInt8)) (t : List UInt8) (w : World) (en : Ending) (w' : World) : Prop :=
  ∃ a c, en = .returned (.agg #[.string ⟨h.toArray⟩, .slice a ms.length c, .string ⟨t.toArray⟩]) ∧ TxR w' (.slice a ms.length c) ms ∧ Below w.heap.size w w' ∧ ∀ g o, a = some ⟨g, o, none⟩ → w.heap.size ≤ g
theorem cell_other3 {w : World} {a b : Nat} (h : a ≠ b) (i j l k : Nat) (u v x : Value) : (((w.setCell ⟨b, i, none⟩ u).setCell ⟨b, j, none⟩ v).setCell ⟨b, l, none⟩ x).cell? ⟨a, k, none⟩ = w.cell? ⟨a, k, none⟩ :=
  World.cell?_of_block (w := w) (a := ⟨a, k, none⟩) (((Below.heap_setCell _ ⟨b, l, none⟩ x a h).trans (Below.heap_setCell _ ⟨b, j, none⟩ v a h)).trans (Below.heap_setCell w ⟨b, i, none⟩ u a h))
theorem txR_other3 {w : World} {a : Option Addr} {n c : Nat} {l : List (List UInt8)} (h : TxR w (.slice a n c) l) {b : Nat} (hb : ∀ g o, a = some ⟨g, o, none⟩ → g ≠ b) (i j k : Nat) (u v x : Value) : TxR (((w.setCell ⟨b, i, none⟩ u).setCell ⟨b, j, none⟩ v).setCell ⟨b, k, none⟩ x) (.slice a n c) l := by
  obtain ⟨a', c', hv, h⟩ := h
  injection hv with hv1 hv2 hv3
  subst hv1 hv2 hv3
  refine ⟨a, c, rfl, fun q hq => ?_⟩
  obtain ⟨g, o, h1, h2, h3⟩ := h q hq
  refine ⟨g, o, h1, by simpa using h2, (cell_other3 (hb g o h1) _ _ _ _ _ _ _).trans h3⟩
set_option maxHeartbeats 6400000 in
set_option maxRecDepth 100000 in
theorem rulower_any (h t : List UInt8) (ms : List (List UInt8)) (a : Option Addr) (c : Nat) (w : World) (hl : ms.length ≤ 1000) (hm : TxR w (.slice a ms.length c) ms) :
    Calls Tryz.prog 30 #[.agg #[.string ⟨h.toArray⟩, .slice a ms.length c, .string ⟨t.toArray⟩]] w (LwPost (lowL h) (ms.map lowL) (lowL t) w) := by
  obtain ⟨a', c', hv, hcells⟩ := hm
  injection hv with hv1 _ hv3
  subst hv1 hv3
  have HM := Lib.hid hcells
  have HH := Lib.hid (fun w => show Calls Tryz.prog 16 #[.string ⟨h.toArray⟩] w (StrPost (lowL h) w) from lower_any ⟨h.toArray⟩ w)
  have HT := Lib.hid (fun w => show Calls Tryz.prog 16 #[.string ⟨t.toArray⟩] w (StrPost (lowL t) w) from lower_any ⟨t.toArray⟩ w)
  obtain ⟨LH, hLH⟩ : ∃ L, lowL h = L := ⟨_, rfl⟩
  obtain ⟨LT, hLT⟩ : ∃ L, lowL t = L := ⟨_, rfl⟩
  rw [hLH] at HH ⊢
  rw [hLT] at HT ⊢
  obtain ⟨L, hL⟩ : ∃ L, ms.map lowL = L := ⟨_, rfl⟩
  have hLl : L.length = ms.length := by rw [← hL]; simp
  have HL := Lib.hid hL
  have HLl := Lib.hid hLl
  rw [hL]
  obtain ⟨n, hn⟩ : ∃ n, ms.length = n := ⟨_, rfl⟩
  have HN := Lib.hid hn
  rw [hn] at hl hLl ⊢
  obtain ⟨i0, hi, hz0, hz1, hz2⟩ := info_parts Tryz.dninfo9
  have HI := Lib.hid hi
  have HZ0 := Lib.hid hz0
  have HZ1 := Lib.hid hz1
  have HZ2 := Lib.hid hz2
  clear hi hz0 hz1 hz2 hcells hLH hLT hL hn
  go_enter Tryz.func30, Tryz.ntmps30
  go_wp2_with (at_make; refine wpList_make_full _ rfl _ _ 23 rfl (w.heap.size + 1 + 1) 9 i0 (.string ByteArray.empty) 1 Tryz.underlying23 HI.out HZ0.out HZ1.out _ _ _ _ n rfl rfl ?e1 ?e2 ?b0 ?b1 ?b2 ?_)
  case e1 => rfl
  case e2 => rfl
  case b0 => rw [HZ2.out]; omega
  case b1 => unfold maxLen; omega
  intro w3 hown3 hg3
  have hb3 := (Below.refl _ _).grown hg3 (Nat.le_refl _) (fun k hk => by cases hk)
  obtain ⟨x0, x1⟩ := six hb3
  have hb03 : Below w.heap.size w w3 := (((Below.refl _ w).alloc (Nat.le_refl _) _).alloc (by simp) _).trans (hb3.mono (by simp; omega))
  have e0 := preS_0 L
  rw [hLl] at e0
  rw [← e0] at hown3
  have hs3 : w.heap.size + 1 + 1 ≤ w3.heap.size := by have := hb3.size; simp at this; omega
  have HX := Lib.hid (And.intro x0 (And.intro x1 hb03))
  have y1 := (obj3 x0).2.1
  clear e0 hg3 hb3 x0 x1 hb03
  go_wp2
  clear y1
  go_loopw [13] (fun v wr => ∃ i : Nat, i ≤ n ∧ v = .int .i64 (i : Nat) ∧ wr.ownsRow (w.heap.size + 1 + 1) 9 1 (.slice (some ⟨w.heap.size + 1 + 1, 0, none⟩) n n) n (sc (preS L i)) ∧ Below (w.heap.size + 1 + 1) w3 wr) (fun v _ => n - (intOf v).toNat)
  case atStart => exact ⟨0, by omega, rfl, hown3, Below.refl _ _⟩
  case round =>
    obtain ⟨i, hi, rfl, hown, hb⟩ := hrel
    have hsr : w.heap.size + 1 + 1 ≤ wr.heap.size := Nat.le_trans hs3 hb.size
    by_cases hlt : i < n
    · have hil : (i : Int) < (n : Int) := by omega
      have hims : i < ms.length := by rw [HN.out]; exact hlt
      obtain ⟨g, o, rfl, hg, e1w⟩ := HM.out i hims
      have e1 := (hb.cell (p := ⟨g, o + i, none⟩) (by show g < _; omega)).trans ((HX.out.2.2.cell (p := ⟨g, o + i, none⟩) hg).trans e1w)
      have hiL : i < L.length := by rw [hLl]; exact hlt
      have hLi : L[i] = lowL ms[i] := by
        have := HL.out
        subst this
        simp
      have hset := preS_set L i hiL
      have hat := preS_at L i hiL
      rw [hLi] at hset
      obtain ⟨m, hmm⟩ : ∃ m, ms[i] = m := ⟨_, rfl⟩
      rw [hmm] at e1 hset
      have HLo := Lib.hid (fun w => show Calls Tryz.prog 16 #[.string ⟨m.toArray⟩] w (StrPost (lowL m) w) from lower_any ⟨m.toArray⟩ w)
      obtain ⟨LM, hLM⟩ : ∃ x, lowL m = x := ⟨_, rfl⟩
      rw [hLM] at HLo hset
      have H := Lib.hid (And.intro hown (And.intro hb (And.intro hset hat)))
      clear hown hb hset hat hLi hmm hLM e1w
      go_wp2_with fail
      refine (HLo.out _).mono ?_
      rintro e w5 ⟨rfl, hb5⟩
      have hown5 := ownsRow_below H.out.1 hb5
      have c0 := (hown5.cellAt i (by omega)).trans H.out.2.2.2
      have f0 := hown5.frozenAt i
      have H5 := Lib.hid (And.intro hown5 (H.out.2.1.trans (hb5.mono hsr)))
      clear hown5 hb5
      go_wp2
      refine ⟨⟨i + 1, by omega, by go_num, ?_, ?_⟩, by simp [intOf]; omega⟩
      · have h7 := (H5.out.1.stored i (.string ⟨LM.toArray⟩)).1
        rw [H.out.2.2.1] at h7
        exact h7
      · exact H5.out.2.setCell (p := ⟨w.heap.size + 1 + 1, i, none⟩) (Nat.le_refl _) _
    · obtain rfl : i = n := by omega
      rw [← hLl, preS_all, hLl] at hown
      have x0 := obj_below HX.out.1 hb (by omega)
      have x1 := obj_below HX.out.2.1 hb (by omega)
      obtain ⟨d0, d1, d2⟩ := obj3 x0
      have r0 := (obj3 x1).1
      have r1 := (obj3 x1).2.1
      have r2 := (obj3 x1).2.2
      have g0 := obj_free x1 0
      have g1 := obj_free x1 1
      have g2 := obj_free x1 2
      have hne : w.heap.size ≠ w.heap.size + 1 := by omega
      have z0 : w.heap.size < wr.heap.size := by omega
      have z1 : w.heap.size + 1 < wr.heap.size := by omega
      have H := Lib.hid (And.intro hown (And.intro (HX.out.2.2.trans (hb.mono (by omega))) x1))
      clear hown hb x0 x1
      go_wp2_with fail
      go_region_held3 (fun w' => w'.cell? ⟨w.heap.size, 0, none⟩ = some (.string ⟨h.toArray⟩) ∧ w'.cell? ⟨w.heap.size, 2, none⟩ = some (.string ⟨t.toArray⟩)) (first | exact ⟨e0, e2⟩ | exact ⟨d0, d2⟩ | exact ⟨(cell_other3 hne _ _ _ _ _ _ _).trans e0, (cell_other3 hne _ _ _ _ _ _ _).trans e2⟩ | go_keep)
        (first | (go_at_call 16; (with_reducible refine (HH.out _).mono ?_); rintro en w5 ⟨rfl, hb5⟩; have hbW : Below wr.heap.size wr w5 := (by first | exact hbW.trans (hb5.mono hbW.size) | exact (Below.refl _ wr).drew.trans hb5); have e0 := (hbW.cell (p := ⟨w.heap.size, 0, none⟩) z0).trans d0; have e2 := (hbW.cell (p := ⟨w.heap.size, 2, none⟩) z0).trans d2; have s0 := (hbW.cell (p := ⟨w.heap.size + 1, 0, none⟩) z1).trans r0; have s1 := (hbW.cell (p := ⟨w.heap.size + 1, 1, none⟩) z1).trans r1; have s2 := (hbW.cell (p := ⟨w.heap.size + 1, 2, none⟩) z1).trans r2; have k0 := (hbW.frozen (p := ⟨w.heap.size + 1, 0, none⟩) z1).trans g0; have k1 := (hbW.frozen (p := ⟨w.heap.size + 1, 1, none⟩) z1).trans g1; have k2 := (hbW.frozen (p := ⟨w.heap.size + 1, 2, none⟩) z1).trans g2) | (go_at_call 16; (with_reducible refine (HT.out _).mono ?_); rintro en w5 ⟨rfl, hb5⟩; have hbW : Below wr.heap.size wr w5 := (by first | exact hbW.trans (hb5.mono hbW.size) | exact (Below.refl _ wr).drew.trans hb5); have e0 := (hbW.cell (p := ⟨w.heap.size, 0, none⟩) z0).trans d0; have e2 := (hbW.cell (p := ⟨w.heap.size, 2, none⟩) z0).trans d2; have s0 := (hbW.cell (p := ⟨w.heap.size + 1, 0, none⟩) z1).trans r0; have s1 := (hbW.cell (p := ⟨w.heap.size + 1, 1, none⟩) z1).trans r1; have s2 := (hbW.cell (p := ⟨w.heap.size + 1, 2, none⟩) z1).trans r2; have k0 := (hbW.frozen (p := ⟨w.heap.size + 1, 0, none⟩) z1).trans g0; have k1 := (hbW.frozen (p := ⟨w.heap.size + 1, 1, none⟩) z1).trans g1; have k2 := (hbW.frozen (p := ⟨w.heap.size + 1, 2, none⟩) z1).trans g2))
      have hrow := ownsRow_below H.out.1 hbW
      have hbx := obj_below H.out.2.2 hbW z1
      have HW := Lib.hid (And.intro hrow (And.intro (H.out.2.1.trans (hbW.mono H.out.2.1.size)) hbx))
      clear hrow hbx hbW hb5 e0 e2 d0 d1 d2
      go_wp2
      have hfx := obj3 (obj_set3 HW.out.2.2 (.string ⟨LH.toArray⟩) (.slice (some ⟨w.heap.size + 1 + 1, 0, none⟩) i i) (.string ⟨LT.toArray⟩))
      obtain ⟨j0, j1, j2⟩ := hfx
      refine bodyPost_ret (v := .agg #[.string ⟨LH.toArray⟩, .slice (some ⟨w.heap.size + 1 + 1, 0, none⟩) i i, .string ⟨LT.toArray⟩]) (by simp [results, Tryz.results30, go_sem, *]) rfl ?_
      refine ⟨some ⟨w.heap.size + 1 + 1, 0, none⟩, i, by rw [hLl], ?_, below_set3 HW.out.2.1 (by omega) _ _ _, fun g o e => by injection e with e; injection e with e; omega⟩
      rw [hLl]
      have ho := HW.out.1
      rw [← hLl] at ho
      have hx := txR_other3 (txR_owns ho) (b := w.heap.size + 1) (fun g o e => by injection e with e; injection e with e; omega) 0 1 2 (.string ⟨LH.toArray⟩) (.slice (some ⟨w.heap.size + 1 + 1, 0, none⟩) i i) (.string ⟨LT.toArray⟩)
      rw [hLl] at hx
      exact hx
end Go.Proofs.YtlopmppiihhnnaaGreatDoor
