/- The law of what anybody sees. The document's Get: how many values a type has. -/
import Derived.Test.YtbihhdkmmlldnaaGreatDoorViCD
import Derived.Test.YtbihhdkmmlldnaaGreatDoorScL
namespace Go.Proofs.YtbihhdkmmlldnaaGreatDoor
set_option linter.unusedSimpArgs false
set_option linter.unusedVariables false
open Go Go.RowKit Go.Proofs.BerK Go.Proofs.MemK Go.Proofs.UtfK

/-- What comes back of an entry, as an entry. -/
def veR (q : Bool) (dn : List UInt8) (V : List Atr) : List UInt8 × List Atr := if q = true then (dn, V) else ([], [])
theorem vePost_at {q : Bool} {dn : List UInt8} {V : List Atr} {w w' : World} {en : Ending} (h : VePost q dn V w en w') : (∃ a c, en = .returned (.tuple #[.agg #[.string ⟨(veR q dn V).1.toArray⟩, .slice a (veR q dn V).2.length c], .bool q]) ∧ EaAt w' (.slice a (veR q dn V).2.length c) (veR q dn V).2) ∧ Below w.heap.size w w' := by
  obtain ⟨h, hb⟩ := h
  refine ⟨?_, hb⟩
  rcases h with ⟨rfl, h⟩ | ⟨rfl, a, c, h, hp⟩
  · exact ⟨none, 0, h, .inl rfl, none, 0, rfl, fun i hi => by simp [veR] at hi⟩
  · exact ⟨a, c, h, paAt_ea hp⟩
theorem few_G {dn : List UInt8} {A : List Atr} (h : FewA dn A) : FewG 12 8 A := by
  obtain ⟨_, h1, h2⟩ := h
  refine ⟨h1, fun b hb => ?_⟩
  obtain ⟨i, hi, rfl⟩ := List.getElem_of_mem hb
  obtain ⟨g1, g2, g3⟩ := h2 i hi
  refine ⟨by omega, g2, fun s hs => ?_⟩
  obtain ⟨j, hj, rfl⟩ := List.getElem_of_mem hs
  have := g3 j hj
  omega
theorem ve_few {q : Bool} {dn s : List UInt8} {L : List Rl} {A : List Atr} (h : FewG 12 8 A) : FewG 12 96 (veR q dn (vwA L s dn A)).2 := by
  unfold veR
  split
  · exact fewG_filter (fewG_mono (fewG_cl h) (by decide) (by decide)) _
  · exact ⟨by simp, fun a ha => by simp at ha⟩
theorem ve_len {m k : Nat} {A : List Atr} (h : FewG m k A) (hm : m ≤ 1000000) (hk : k ≤ 1000000) : A.length ≤ 1000000 ∧ ∀ a ∈ A, a.2.length ≤ 1000000 := ⟨Nat.le_trans h.1 hm, fun a ha => Nat.le_trans (h.2 a ha).2.1 hk⟩
theorem fewA_attr {L : List Rl} (h : fewA L = true) : ∀ q ∈ L, q.2.2.1.length ≤ 80 := fun q hq => by
  obtain ⟨k, hk, rfl⟩ := List.getElem_of_mem hq
  exact ((fewA_facts h).2 k hk).2.2
set_option maxHeartbeats 25600000 in
set_option maxRecDepth 100000 in
theorem vtell_any (A : List Atr) (L : List Rl) (la : Option Addr) (lc : Nat) (dn s : List UInt8) (av : Value) (w : World) (he : ErrOk w) (hL : RlAt w (.slice la L.length lc) L) (hA : EaAt w av A) :
    Calls Tryz.prog 6 #[.slice la L.length lc, .string ⟨s.toArray⟩, .agg #[.string ⟨dn.toArray⟩, av]] w (BoolPost true w) := by
  obtain ⟨a, c, rfl⟩ := eaAt_slice hA
  obtain ⟨W, hW⟩ : ∃ W, w.alloc (.cells #[.string ⟨dn.toArray⟩, .slice a A.length c] 40) = W := ⟨_, rfl⟩
  have hb0 : Below w.heap.size w W := by rw [← hW]; exact (Below.refl _ w).alloc (Nat.le_refl _) _
  have hg : W.heap[w.heap.size]? = some (.cells #[.string ⟨dn.toArray⟩, .slice a A.length c] 40 (0, 0)) := by rw [← hW]; exact heap_alloc_new w _
  obtain ⟨d0, d1⟩ := obj2s hg
  have hz : w.heap.size < W.heap.size := obj_lt hg
  have HB0 := Lib.hid hb0
  have HLa := Lib.hid (rlAt_below hL hb0)
  have HAa := Lib.hid (eaAt_below hA hb0)
  have HE := Lib.hid (fun w' (hb : Below W.heap.size W w') => errOk_below (errOk_below he hb0) hb)
  have HF1 := Lib.hid (fun w' (hb : Below W.heap.size W w') => few16_any _ L w' (rlAt_below HLa.out hb))
  have HF9 := Lib.hid (fun w' (hb : Below W.heap.size W w') => few9_any dn A _ w' (eaAt_at (eaAt_below HAa.out hb)))
  have HAw := Lib.hid (fun w' (hb : Below W.heap.size W w') => awake17_any w' (HE.out w' hb))
  have HEn := Lib.hid (fun (hf : FewG 12 8 A) w' (hb : Below W.heap.size W w') => ventry_any A L dn s _ _ w' (HE.out w' hb) (rlAt_below HLa.out hb) (eaAt_below HAa.out hb) (fewG_e hf (by decide) (by decide)))
  have HREn := Lib.hid (fun (hf : FewG 12 8 A) (hs : ∀ q ∈ L, q.2.2.1.length ≤ 80) w' (hb : Below W.heap.size W w') => rentry_any A L dn s _ _ w' (.inr hs) (rlAt_below HLa.out hb) (eaAt_below HAa.out hb) (fewG_mono hf (by decide) (by decide)))
  have HSe0 := Lib.hid (fun w' (hb : Below W.heap.size W w') => seen_any _ L s dn w' (HE.out w' hb) (rlAt_below HLa.out hb))
  have HRSe0 := Lib.hid (fun (hs : ∀ q ∈ L, q.2.2.1.length ≤ 80) w' (hb : Below W.heap.size W w') => rseen_any _ L s dn w' (.inr hs) (rlAt_below HLa.out hb))
  have HOl0 := Lib.hid (fun w' (hb : Below W.heap.size W w') => old_any _ L s dn w' (HE.out w' hb) (rlAt_below HLa.out hb))
  have HROl0 := Lib.hid (fun (hs : ∀ q ∈ L, q.2.2.1.length ≤ 80) w' (hb : Below W.heap.size W w') => rold_any _ L s dn w' (.inr hs) (rlAt_below HLa.out hb))
  have hfa := fun h => fewA_attr (L := L) h
  obtain ⟨n1, e1⟩ : ∃ q, fewA L = q := ⟨_, rfl⟩
  rw [e1] at HF1 hfa
  obtain ⟨n, hn⟩ : ∃ n, L.length = n := ⟨_, rfl⟩
  obtain ⟨m, hm⟩ : ∃ m, A.length = m := ⟨_, rfl⟩
  rw [hn] at HLa HF1 HEn HREn HSe0 HRSe0 HOl0 HROl0 ⊢
  rw [hm] at HAa HF9 HEn HREn hW d1 ⊢
  have hbW : Below W.heap.size W W := Below.refl _ W
  have hways : (n1 = false ∨ (n1 = true ∧ (200 : Int) < (s.length : Int))) ∨ (n1 = true ∧ ¬ (200 : Int) < (s.length : Int)) := by
    cases n1 <;> simp <;> omega
  clear he hL hA hb0 hg e1 hn hm
  rcases hways with hways | ⟨rfl, p1⟩
  · clear hfa
    rcases hways with rfl | ⟨rfl, p1⟩
    all_goals
      go_enter Tryz.func6, Tryz.ntmps6
      go_wp2_with ((first | with_reducible refine (HF1.out _ hbW).mono ?_ | with_reducible refine (HAw.out _ hbW).mono ?_); rintro en w5 ⟨rfl, hb5⟩; have hbW := hbW.trans (hb5.mono hbW.size); have h0 := (hbW.cell (p := ⟨w.heap.size, 0, none⟩) hz).trans d0; have h1 := (hbW.cell (p := ⟨w.heap.size, 1, none⟩) hz).trans d1)
      go_ret
      exact boolPost_mk rfl (HB0.out.trans (hbW.mono HB0.out.size))
  have HFa := Lib.hid (hfa rfl)
  clear hfa
  go_enter Tryz.func6, Tryz.ntmps6
  go_wp2_with fail
  refine (HF1.out _ hbW).mono ?_
  rintro en w5 ⟨rfl, hb5⟩
  have k0 := (hb5.cell (p := ⟨w.heap.size, 0, none⟩) hz).trans d0
  have k1 := (hb5.cell (p := ⟨w.heap.size, 1, none⟩) hz).trans d1
  have B5 := Lib.hid hb5
  clear hb5 hbW
  go_wp2_with fail
  refine (HF9.out _ B5.out).mono ?_
  rintro en w6 ⟨hx, hb6⟩
  have hb06 := B5.out.trans (hb6.mono B5.out.size)
  clear k0 k1
  have k0 := (hb06.cell (p := ⟨w.heap.size, 0, none⟩) hz).trans d0
  have k1 := (hb06.cell (p := ⟨w.heap.size, 1, none⟩) hz).trans d1
  have B6 := Lib.hid hb06
  clear hb6 hb06
  rcases hx with rfl | ⟨rfl, hfew⟩
  · have hbW := B6.out
    go_wp2_with ((with_reducible refine (HAw.out _ hbW).mono ?_); rintro en w7 ⟨rfl, hb5⟩; have hbW := hbW.trans (hb5.mono hbW.size))
    go_ret
    exact boolPost_mk rfl (HB0.out.trans (hbW.mono HB0.out.size))
  have hG := few_G hfew
  have HVe := Lib.hid (ve_len (ve_few (q := seB L s dn) (dn := dn) (s := s) (L := L) hG) (by decide) (by decide))
  have HEn1 := Lib.hid (HEn.out hG)
  have HREn1 := Lib.hid (HREn.out hG HFa.out)
  obtain ⟨q, hq⟩ : ∃ q, seB L s dn = q := ⟨_, rfl⟩
  rw [hq] at HVe HEn1 HREn1 HSe0 HRSe0 HOl0 HROl0
  have HEn := Lib.hid (fun w' (hb : Below W.heap.size W w') => (HEn1.out w' hb).mono fun en w'' h => vePost_at h)
  have HREn := Lib.hid (fun w' (hb : Below W.heap.size W w') => (HREn1.out w' hb).mono fun en w'' h => vePost_at h)
  clear HEn1 HREn1
  obtain ⟨⟨x, X⟩, hX⟩ : ∃ p, veR q dn (vwA L s dn A) = p := ⟨_, rfl⟩
  rw [hX] at HVe HEn HREn
  dsimp only at HVe HEn HREn
  obtain ⟨xn, hxn⟩ : ∃ n, X.length = n := ⟨_, rfl⟩
  have HXn := Lib.hid hxn
  rw [hxn] at HEn HREn
  clear hfew hG hq hX hxn
  go_wp2_with fail
  refine (HEn.out _ B6.out).mono ?_
  rintro en w7 ⟨⟨a1, c1, rfl, hx1⟩, hb7⟩
  have hb07 := B6.out.trans (hb7.mono B6.out.size)
  obtain ⟨W8, hW8⟩ : ∃ W8, w7.alloc (.cells #[.string ⟨x.toArray⟩, .slice a1 xn c1] 40) = W8 := ⟨_, rfl⟩
  have hb78 : Below w7.heap.size w7 W8 := by rw [← hW8]; exact (Below.refl _ w7).alloc (Nat.le_refl _) _
  have hg8 : W8.heap[w7.heap.size]? = some (.cells #[.string ⟨x.toArray⟩, .slice a1 xn c1] 40 (0, 0)) := by rw [← hW8]; exact heap_alloc_new w7 _
  have hb08 := hb07.trans (hb78.mono hb07.size)
  clear k0 k1
  have k0 := (hb08.cell (p := ⟨w.heap.size, 0, none⟩) hz).trans d0
  have k1 := (hb08.cell (p := ⟨w.heap.size, 1, none⟩) hz).trans d1
  rw [← hW8] at k0 k1
  have B8 := Lib.hid (And.intro hb08 (And.intro hg8 (eaAt_below hx1 hb78)))
  have HW8 := Lib.hid hW8
  clear hb7 hb07 hW8 hb78 hg8 hb08 hx1
  go_wp2_with fail
  rw [HW8.out]
  refine (HREn.out _ B8.out.1).mono ?_
  rintro en w9 ⟨⟨a2, c2, rfl, hx2⟩, hb9⟩
  have hb09 := B8.out.1.trans (hb9.mono B8.out.1.size)
  obtain ⟨W10, hW10⟩ : ∃ W10, w9.alloc (.cells #[.string ⟨x.toArray⟩, .slice a2 xn c2] 40) = W10 := ⟨_, rfl⟩
  have hb910 : Below w9.heap.size w9 W10 := by rw [← hW10]; exact (Below.refl _ w9).alloc (Nat.le_refl _) _
  have hg10 : W10.heap[w9.heap.size]? = some (.cells #[.string ⟨x.toArray⟩, .slice a2 xn c2] 40 (0, 0)) := by rw [← hW10]; exact heap_alloc_new w9 _
  have hb010 := hb09.trans (hb910.mono hb09.size)
  have hg8 := obj_below (obj_below B8.out.2.1 hb9 (obj_lt B8.out.2.1)) hb910 (by have := obj_lt B8.out.2.1; have := hb9.size; omega)
  clear k0 k1
  obtain ⟨p0, p1⟩ := obj2s hg8
  obtain ⟨q0, q1⟩ := obj2s hg10
  have d0 := (hb010.cell (p := ⟨w.heap.size, 0, none⟩) hz).trans d0
  have z7 := obj_lt hg8
  have z9 := obj_lt hg10
  have z0 : w.heap.size < W10.heap.size := Nat.lt_of_lt_of_le hz hb010.size
  have B10 := Lib.hid (And.intro hb010 (And.intro (eaAt_below (eaAt_below B8.out.2.2 hb9) hb910) (eaAt_below hx2 hb910)))
  have HEq := Lib.hid (fun w' (hb : Below W10.heap.size W10 w') => show Calls Tryz.prog 22 #[.agg #[.string ⟨x.toArray⟩, .slice a1 xn c1], .agg #[.string ⟨x.toArray⟩, .slice a2 xn c2]] w' (BB true w') from by
    have := req10_any X X x x _ _ w' (eaAt_at (eaAt_below B10.out.2.1 hb)) (eaAt_at (eaAt_below B10.out.2.2 hb)) HVe.out.1 HVe.out.1 HVe.out.2 HVe.out.2
    rw [decide_eq_true ⟨rfl, rfl⟩] at this
    exact this)
  have HSe := Lib.hid (fun w' (hb : Below W10.heap.size W10 w') => HSe0.out w' (B10.out.1.trans (hb.mono B10.out.1.size)))
  have HRSe := Lib.hid (fun w' (hb : Below W10.heap.size W10 w') => HRSe0.out HFa.out w' (B10.out.1.trans (hb.mono B10.out.1.size)))
  have HOl := Lib.hid (fun w' (hb : Below W10.heap.size W10 w') => HOl0.out w' (B10.out.1.trans (hb.mono B10.out.1.size)))
  have HROl := Lib.hid (fun w' (hb : Below W10.heap.size W10 w') => HROl0.out HFa.out w' (B10.out.1.trans (hb.mono B10.out.1.size)))
  have HW9 := Lib.hid (fun w' (hb : Below W10.heap.size W10 w') => HAw.out w' (B10.out.1.trans (hb.mono B10.out.1.size)))
  obtain ⟨ol, hol⟩ : ∃ o, oldL q dn = o := ⟨_, rfl⟩
  rw [hol] at HOl HROl
  have HW10 := Lib.hid hW10
  have hbX : True := trivial
  clear hb9 hb09 hW10 hb910 hg10 hb010 hg8 hx2 d1 hol
  go_wp2_with fail
  try rw [HW10.out]
  go_region_held3 (fun w' => w'.cell? ⟨w7.heap.size, 0, none⟩ = some (.string ⟨x.toArray⟩) ∧ w'.cell? ⟨w7.heap.size, 1, none⟩ = some (.slice a1 xn c1) ∧ w'.cell? ⟨w9.heap.size, 0, none⟩ = some (.string ⟨x.toArray⟩) ∧ w'.cell? ⟨w9.heap.size, 1, none⟩ = some (.slice a2 xn c2) ∧ w'.cell? ⟨w.heap.size, 0, none⟩ = some (.string ⟨dn.toArray⟩)) (first | exact ⟨hp0, hp1, hq0, hq1, hd0⟩ | exact ⟨p0, p1, q0, q1, d0⟩ | go_keep)
    (first | (go_at_call 22; (with_reducible refine (HEq.out _ (by first | exact hbW | exact (Below.refl _ W10).drew)).mono ?_); rintro en wz ⟨rfl, hb5⟩; have hbW : Below W10.heap.size W10 wz := (by first | exact hbW.trans (hb5.mono hbW.size) | exact (Below.refl _ W10).drew.trans hb5); have hp0 := (hbW.cell (p := ⟨w7.heap.size, 0, none⟩) z7).trans p0; have hp1 := (hbW.cell (p := ⟨w7.heap.size, 1, none⟩) z7).trans p1; have hq0 := (hbW.cell (p := ⟨w9.heap.size, 0, none⟩) z9).trans q0; have hq1 := (hbW.cell (p := ⟨w9.heap.size, 1, none⟩) z9).trans q1; have hd0 := (hbW.cell (p := ⟨w.heap.size, 0, none⟩) z0).trans d0; clear hb5) | (go_at_call 23; (with_reducible refine (HSe.out _ (by first | exact hbW | exact (Below.refl _ W10).drew)).mono ?_); rintro en wz ⟨rfl, hb5⟩; have hbW : Below W10.heap.size W10 wz := (by first | exact hbW.trans (hb5.mono hbW.size) | exact (Below.refl _ W10).drew.trans hb5); have hp0 := (hbW.cell (p := ⟨w7.heap.size, 0, none⟩) z7).trans p0; have hp1 := (hbW.cell (p := ⟨w7.heap.size, 1, none⟩) z7).trans p1; have hq0 := (hbW.cell (p := ⟨w9.heap.size, 0, none⟩) z9).trans q0; have hq1 := (hbW.cell (p := ⟨w9.heap.size, 1, none⟩) z9).trans q1; have hd0 := (hbW.cell (p := ⟨w.heap.size, 0, none⟩) z0).trans d0; clear hb5) | (go_at_call 24; (with_reducible refine (HRSe.out _ (by first | exact hbW | exact (Below.refl _ W10).drew)).mono ?_); rintro en wz ⟨rfl, hb5⟩; have hbW : Below W10.heap.size W10 wz := (by first | exact hbW.trans (hb5.mono hbW.size) | exact (Below.refl _ W10).drew.trans hb5); have hp0 := (hbW.cell (p := ⟨w7.heap.size, 0, none⟩) z7).trans p0; have hp1 := (hbW.cell (p := ⟨w7.heap.size, 1, none⟩) z7).trans p1; have hq0 := (hbW.cell (p := ⟨w9.heap.size, 0, none⟩) z9).trans q0; have hq1 := (hbW.cell (p := ⟨w9.heap.size, 1, none⟩) z9).trans q1; have hd0 := (hbW.cell (p := ⟨w.heap.size, 0, none⟩) z0).trans d0; clear hb5) | (go_at_call 25; (with_reducible refine (HOl.out _ (by first | exact hbW | exact (Below.refl _ W10).drew)).mono ?_); rintro en wz ⟨rfl, hb5⟩; have hbW : Below W10.heap.size W10 wz := (by first | exact hbW.trans (hb5.mono hbW.size) | exact (Below.refl _ W10).drew.trans hb5); have hp0 := (hbW.cell (p := ⟨w7.heap.size, 0, none⟩) z7).trans p0; have hp1 := (hbW.cell (p := ⟨w7.heap.size, 1, none⟩) z7).trans p1; have hq0 := (hbW.cell (p := ⟨w9.heap.size, 0, none⟩) z9).trans q0; have hq1 := (hbW.cell (p := ⟨w9.heap.size, 1, none⟩) z9).trans q1; have hd0 := (hbW.cell (p := ⟨w.heap.size, 0, none⟩) z0).trans d0; clear hb5) | (go_at_call 26; (with_reducible refine (HROl.out _ (by first | exact hbW | exact (Below.refl _ W10).drew)).mono ?_); rintro en wz ⟨rfl, hb5⟩; have hbW : Below W10.heap.size W10 wz := (by first | exact hbW.trans (hb5.mono hbW.size) | exact (Below.refl _ W10).drew.trans hb5); have hp0 := (hbW.cell (p := ⟨w7.heap.size, 0, none⟩) z7).trans p0; have hp1 := (hbW.cell (p := ⟨w7.heap.size, 1, none⟩) z7).trans p1; have hq0 := (hbW.cell (p := ⟨w9.heap.size, 0, none⟩) z9).trans q0; have hq1 := (hbW.cell (p := ⟨w9.heap.size, 1, none⟩) z9).trans q1; have hd0 := (hbW.cell (p := ⟨w.heap.size, 0, none⟩) z0).trans d0; clear hb5) | (go_at_call 19; (with_reducible refine (HW9.out _ (by first | exact hbW | exact (Below.refl _ W10).drew)).mono ?_); rintro en wz ⟨rfl, hb5⟩; have hbW : Below W10.heap.size W10 wz := (by first | exact hbW.trans (hb5.mono hbW.size) | exact (Below.refl _ W10).drew.trans hb5); have hp0 := (hbW.cell (p := ⟨w7.heap.size, 0, none⟩) z7).trans p0; have hp1 := (hbW.cell (p := ⟨w7.heap.size, 1, none⟩) z7).trans p1; have hq0 := (hbW.cell (p := ⟨w9.heap.size, 0, none⟩) z9).trans q0; have hq1 := (hbW.cell (p := ⟨w9.heap.size, 1, none⟩) z9).trans q1; have hd0 := (hbW.cell (p := ⟨w.heap.size, 0, none⟩) z0).trans d0; clear hb5))
  go_wp2
  go_ret
  exact boolPost_mk (by simp) (HB0.out.trans ((B10.out.1.trans (hbW.mono B10.out.1.size)).mono HB0.out.size))
theorem vi_mk (s : ByteArray) : (⟨s.data.toList.toArray⟩ : ByteArray) = s := by apply ByteArray.ext; simp
theorem vtell_s (A : List Atr) (L : List Rl) (la : Option Addr) (lc : Nat) (dn : List UInt8) (s : ByteArray) (av : Value) (w : World) (he : ErrOk w) (hL : RlAt w (.slice la L.length lc) L) (hA : EaAt w av A) :
    Calls Tryz.prog 6 #[.slice la L.length lc, .string s, .agg #[.string ⟨dn.toArray⟩, av]] w (BoolPost true w) := by
  have h := vtell_any A L la lc dn s.data.toList av w he hL hA
  rw [vi_mk] at h
  exact h
end Go.Proofs.YtbihhdkmmlldnaaGreatDoor
namespace Go.Proofs.YtbihhdkmmlldnaaGreatDoor
set_option linter.unusedSimpArgs false
set_option linter.unusedVariables false
open Go Go.RowKit Go.Proofs.BerK Go.Proofs.MemK Go.Proofs.UtfK

/-- A list of so many values. -/
def GtPost (n : Nat) (w : World) (en : Ending) (w' : World) : Prop := (∃ a c, en = .returned (.slice a n c)) ∧ Below w.heap.size w w'
theorem ge_at {A : List Atr} {s : List UInt8} {k : Nat} (hk : k < (clA A).length) (h : (clA A)[k].1 = lowL s) : geL A s = (clA A)[k].2 := by
  have hm := (cl_is A).2 (clA A)[k] |>.1 (List.getElem_mem hk)
  unfold geL
  rw [← h]
  exact hm.1.symm
theorem ge_no {A : List Atr} {s : List UInt8} (h : ∀ j (hj : j < (clA A).length), (clA A)[j].1 ≠ lowL s) : geL A s = [] := by
  by_cases e : geL A s = []
  · exact e
  · exfalso
    have hm : (lowL s, geL A s) ∈ clA A := (cl_is A).2 _ |>.2 ⟨rfl, e⟩
    obtain ⟨j, hj, hj2⟩ := List.getElem_of_mem hm
    exact h j hj (by rw [hj2])
set_option maxHeartbeats 6400000 in
set_option maxRecDepth 100000 in
theorem rget10_any (A : List Atr) (dn s : List UInt8) (av : Value) (w : World) (h : AtAt w av A) (hf : FewG 300 300 A) (hs : s.length ≤ 1000000) : Calls Tryz.prog 27 #[.agg #[.string ⟨dn.toArray⟩, av], .string ⟨s.toArray⟩] w (GtPost (geL A s).length w) := by
  obtain ⟨a, c, rfl, _⟩ := id h
  obtain ⟨W, hW⟩ : ∃ W, w.alloc (.cells #[.string ⟨dn.toArray⟩, .slice a A.length c] 40) = W := ⟨_, rfl⟩
  have hb0 : Below w.heap.size w W := by rw [← hW]; exact (Below.refl _ w).alloc (Nat.le_refl _) _
  have hg : W.heap[w.heap.size]? = some (.cells #[.string ⟨dn.toArray⟩, .slice a A.length c] 40 (0, 0)) := by rw [← hW]; exact heap_alloc_new w _
  obtain ⟨d0, d1⟩ := obj2s hg
  have HC := Lib.hid (rclean10_any dn A _ W (atAt_below h hb0) hf)
  have HCf := Lib.hid (fewG_cl hf)
  have HLo := Lib.hid (fun w' => show Calls Tryz.prog 35 #[.string ⟨s.toArray⟩] w' (StrPost (lowL s) w') from rlow5_any ⟨s.toArray⟩ (by show s.length ≤ _; omega) w')
  have HG := Lib.hid (And.intro (fun k hk h => ge_at (A := A) (s := s) (k := k) hk h) (ge_no (A := A) (s := s)))
  obtain ⟨gn, hgn⟩ : ∃ n, (geL A s).length = n := ⟨_, rfl⟩
  have HGn := Lib.hid hgn
  rw [hgn]
  obtain ⟨n, hn⟩ : ∃ n, A.length = n := ⟨_, rfl⟩
  rw [hn] at HC hW d1 ⊢
  obtain ⟨R, hR⟩ : ∃ R, clA A = R := ⟨_, rfl⟩
  rw [hR] at HC HCf HG
  have HB0 := Lib.hid hb0
  have hfi : ∀ (w : World) (a : Option Addr) (n c : Nat), (Instr.field 40 (.agg #[.string ⟨dn.toArray⟩, .slice a n c]) 1).run Tryz.prog w = .ok (.slice a n c) w := fun w a n c => by kernel_rfl
  clear h hf hb0 hg hn hR hgn
  go_enter Tryz.func27, Tryz.ntmps27
  go_wp2_with fail
  refine HC.out.mono ?_
  rintro e w4 ⟨v, rfl, hpa, hb4⟩
  obtain ⟨ra, rc, rfl⟩ := paAt_slice hpa
  obtain ⟨rl, hrl⟩ : ∃ x, R.length = x := ⟨_, rfl⟩
  have HRl := Lib.hid hrl
  have hrlb : rl ≤ 100000 := by have := HCf.out.1; omega
  have HP := Lib.hid (And.intro hpa (HB0.out.trans (hb4.mono HB0.out.size)))
  rw [hrl]
  clear hpa hb4 hrl d0 d1 hW
  go_wp2
  go_loopw [6] (fun v wr => ∃ k : Nat, k ≤ rl ∧ v = .int .i64 (k : Nat) ∧ Below w4.heap.size w4 wr ∧ ∀ j (hj : j < R.length), j < k → R[j].1 ≠ lowL s) (fun v _ => rl - (intOf v).toNat)
  case atStart => exact ⟨0, by omega, rfl, Below.refl _ _, fun j _ h => by omega⟩
  case round =>
    obtain ⟨k, hk, rfl, hb, hall⟩ := hrel
    by_cases hlt : k < rl
    · have hkl : (k : Int) < (rl : Int) := by omega
      have hkR : k < R.length := by rw [HRl.out]; exact hlt
      obtain ⟨Lq, B, hqk, hqr⟩ := HP.out.1
      obtain ⟨rg, rc', eo, hrB, hrg⟩ := own_block hqr (by omega)
      injection eo with eo1 eo2 eo3
      subst eo1 eo3
      clear eo2
      have hkq : k < Lq.length := by rw [hqk.1]; exact hkR
      obtain ⟨h1, h2⟩ := atcs_at Lq k hkq
      obtain ⟨hn1, BB', hlist⟩ := hqk.2 k hkq hkR
      have t0 := (hb.cell (p := ⟨rg, k * 2, none⟩) hrg).trans ((hqr.cellAt (k * 2) (by omega)).trans h1)
      have t1 := (hb.cell (p := ⟨rg, k * 2 + 1, none⟩) hrg).trans ((hqr.cellAt (k * 2 + 1) (by omega)).trans h2)
      obtain ⟨xa, xc, hxv⟩ := ownsRow_slice hlist
      rw [hxv] at t1
      have hG1 := HG.out.1 k hkR
      obtain ⟨⟨t, T⟩, hrk⟩ : ∃ x, R[k] = x := ⟨_, rfl⟩
      rw [hrk] at hn1 hG1 t1
      dsimp only at hn1 hG1 t1
      rw [hn1] at t0
      have zr : rg < wr.heap.size := by have := hb.size; omega
      have H := Lib.hid (And.intro hb (And.intro hall (And.intro hG1 hrk)))
      obtain ⟨Tn, hTn⟩ : ∃ n, T.length = n := ⟨_, rfl⟩
      have HT := Lib.hid hTn
      rw [hTn] at t1
      clear hb hall hqk hqr hrB h1 h2 hn1 hlist hxv hG1 hrk hTn
      by_cases he : t = lowL s
      · have q1 : (t == lowL s) = true := by simp [he]
        have HN := Lib.hid (show gn = Tn by rw [← HGn.out, ← HT.out, H.out.2.2.1 he])
        clear he
        go_wp2_with fail
        go_region_held3 (fun w' => w'.cell? ⟨rg, k * 2, none⟩ = some (.string ⟨t.toArray⟩)) (first | exact ⟨ht0⟩ | exact ⟨t0⟩ | go_keep)
          (first | (go_at_call 35; (with_reducible refine (HLo.out _).mono ?_); rintro en wz ⟨rfl, hb5⟩; have hbW : Below wr.heap.size wr wz := (by first | exact hbW.trans (hb5.mono hbW.size) | exact (Below.refl _ wr).drew.trans hb5); have ht0 := (hbW.cell (p := ⟨rg, k * 2, none⟩) zr).trans t0; clear hb5))
        have ht1 := (hbW.cell (p := ⟨rg, k * 2 + 1, none⟩) zr).trans t1
        clear t1 t0
        go_wp2
        go_ret
        exact ⟨⟨xa, xc, by rw [HN.out]; rfl⟩, HP.out.2.trans ((H.out.1.trans (hbW.mono H.out.1.size)).mono HP.out.2.size)⟩
      · have q1 : (t == lowL s) = false := by simpa using he
        have HN := Lib.hid (show ∀ j (hj : j < R.length), j < k + 1 → R[j].1 ≠ lowL s from fun j hj hjk => by
          by_cases e : j = k
          · subst e; rw [H.out.2.2.2]; exact he
          · exact H.out.2.1 j hj (by omega))
        clear he
        go_wp2_with fail
        go_region_held3 (fun w' => w'.cell? ⟨rg, k * 2, none⟩ = some (.string ⟨t.toArray⟩)) (first | exact ⟨ht0⟩ | exact ⟨t0⟩ | go_keep)
          (first | (go_at_call 35; (with_reducible refine (HLo.out _).mono ?_); rintro en wz ⟨rfl, hb5⟩; have hbW : Below wr.heap.size wr wz := (by first | exact hbW.trans (hb5.mono hbW.size) | exact (Below.refl _ wr).drew.trans hb5); have ht0 := (hbW.cell (p := ⟨rg, k * 2, none⟩) zr).trans t0; clear hb5))
        clear t1 t0
        go_wp2
        exact ⟨⟨k + 1, by omega, by go_num, H.out.1.trans (hbW.mono H.out.1.size), HN.out⟩, by simp [intOf]; omega⟩
    · obtain rfl : k = rl := by omega
      have HN := Lib.hid (show gn = 0 by rw [← HGn.out, HG.out.2 (fun j hj => hall j hj (by rw [← HRl.out]; exact hj))]; rfl)
      have HBx := Lib.hid (HP.out.2.trans (hb.mono HP.out.2.size))
      clear hb hall
      go_wp2
      go_ret
      exact ⟨⟨none, 0, by rw [HN.out]; rfl⟩, HBx.out⟩
end Go.Proofs.YtbihhdkmmlldnaaGreatDoor
