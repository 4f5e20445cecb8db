/- What somebody sees of an entry: the code's Entry. -/
import Derived.Test.YtbihhdkmmlldnaaGreatDoorViA
import Derived.Test.YtbihhdkmmlldnaaGreatDoorViK
import Derived.Test.YtbihhdkmmlldnaaGreatDoorEnHO
import Derived.Test.YtbihhdkmmlldnaaGreatDoorEnCE
import Derived.Laws.EntriesVeiled
namespace Go.Proofs.YtbihhdkmmlldnaaGreatDoor
set_option linter.unusedSimpArgs false
set_option linter.unusedVariables false
open Go Go.RowKit Go.Proofs.BerK Go.Proofs.MemK Go.Proofs.UtfK
theorem own_set1 {w : World} {B s n rb i : Nat} {e t : TypeId} {v : Value} {xs : List Value} {cs : Array Value} (h : w.ownsRow B e s v n xs) (hx : w.heap[rb]? = some (.cells cs t (0, 0))) (hne : e ≠ t) (x : Value) : (w.setCell ⟨rb, i, none⟩ x).ownsRow B e s v n xs := by
  refine ownsRow_chg (S := fun k => k = rb) h ((Chg.refl (fun k => k = rb) w).setCell (p := ⟨rb, i, none⟩) (fun _ => rfl) x) (fun k hk e2 => ?_)
  have e2 : k = rb := e2
  subst e2
  rcases h.2 with ⟨rfl, _⟩ | ⟨g, cap, cur, rfl, _, hg, _⟩
  · cases hk
  · have e1 : g = k := by injection hk
    subst e1
    rw [hg] at hx
    injection hx with hx
    injection hx with _ hx
    exact hne hx
theorem atOk_set1 {w : World} {rb i : Nat} {Lq : List (List UInt8 × Value)} {L : List Atr} {t : TypeId} {cs : Array Value} (h : AtOk w Lq L) (hx : w.heap[rb]? = some (.cells cs t (0, 0))) (h2 : 9 ≠ t) (x : Value) : AtOk (w.setCell ⟨rb, i, none⟩ x) Lq L :=
  ⟨h.1, fun j i1 i2 => ⟨(h.2 j i1 i2).1, by obtain ⟨_, B2, hB⟩ := h.2 j i1 i2; exact ⟨B2, own_set1 hB hx h2 x⟩⟩⟩
theorem set1_e {w : World} {g : Nat} {a b : Value} {t : TypeId} (h : w.heap[g]? = some (.cells #[a, b] t (0, 0))) (d : Value) : (w.setCell ⟨g, 1, none⟩ d).heap[g]? = some (.cells #[a, d] t (0, 0)) := by simpa using obj_set h 1 d
theorem obj1s {w : World} {g : Nat} {a : Value} {t : TypeId} (h : w.heap[g]? = some (.cells #[a] t (0, 0))) : w.cell? ⟨g, 0, none⟩ = some a := obj_cell h 0 _ rfl
theorem chg_cell {S : Nat → Prop} {w w' : World} (h : Chg S w w') {g : Nat} (hg : g < w.heap.size) (hS : ¬ S g) (i : Nat) : w'.cell? ⟨g, i, none⟩ = w.cell? ⟨g, i, none⟩ := by
  unfold World.cell?
  have := h.block g hg hS
  simp only [this]

/-- The two boxes of an entry made clean, and of the result. -/
def VwSt (w0 : World) (dn : List UInt8) (L : List Atr) (v : Value) (Lq : List (List UInt8 × Value)) (B : Nat) (W : World) : Prop :=
  W.heap[w0.heap.size]? = some (.cells #[.string ⟨dn.toArray⟩, v] 40 (0, 0)) ∧ W.heap[w0.heap.size + 1]? = some (.cells #[.string ⟨#[]⟩, .slice none 0 0] 40 (0, 0)) ∧ AtOk W Lq L ∧ W.ownsRow B 50 2 v L.length (atcs Lq) ∧ w0.heap.size + 2 ≤ B ∧ Below w0.heap.size w0 W
theorem vwSt_end {w0 W : World} {B : Nat} {dn : List UInt8} {L : List Atr} {v : Value} {Lq : List (List UInt8 × Value)} (h : VwSt w0 dn L v Lq B W) : PaAt ((W.setCell ⟨w0.heap.size + 1, 0, none⟩ (.string ⟨dn.toArray⟩)).setCell ⟨w0.heap.size + 1, 1, none⟩ v) v L ∧ Below w0.heap.size w0 ((W.setCell ⟨w0.heap.size + 1, 0, none⟩ (.string ⟨dn.toArray⟩)).setCell ⟨w0.heap.size + 1, 1, none⟩ v) := by
  obtain ⟨h1, h2, h3, h4, h5, h6⟩ := h
  exact ⟨⟨Lq, B, atOk_set2 h3 h2 (by decide) _ _, own_set2 h4 h2 (by decide) _ _⟩, below_e2 h6 (by omega) _ _⟩
theorem vwSt_del {w0 W W' : World} {B : Nat} {dn : List UInt8} {L : List Atr} {v v' : Value} {Lq : List (List UInt8 × Value)} (h : VwSt w0 dn L v Lq B W) (p : List UInt8 → Bool) (hr : W'.ownsRow B 50 2 v' (Lq.filter fun q => !p q.1).length (atcs (Lq.filter fun q => !p q.1))) (hc : Chg (fun k => some k = v.ownBlock) W W') :
    VwSt w0 dn (L.filter fun q => !p q.1) v' (Lq.filter fun q => !p q.1) B (W'.setCell ⟨w0.heap.size, 1, none⟩ v') := by
  obtain ⟨h1, h2, h3, h4, h5, h6⟩ := h
  have hB : ∀ k, some k = v.ownBlock → w0.heap.size + 2 ≤ k := fun k hk => Nat.le_trans h5 (h4.lt k hk.symm).1
  have y1 := obj_chg h1 hc (fun e => by have := hB _ e; omega)
  have y2 := obj_chg h2 hc (fun e => by have := hB _ e; omega)
  have ok := atOk_filter (atOk_chg h3 h4 hc) p
  have hl := ok.1
  rw [hl] at hr
  exact ⟨set1_e y1 _, obj_set_other y2 (by show _ ≠ w0.heap.size; omega) _, atOk_set1 ok y1 (by decide) _, own_set1 hr y1 (by decide) _, h5, (h6.trans (hc.toBelow h6.size (fun k _ hk => by have := hB k hk; omega))).setCell (p := ⟨w0.heap.size, 1, none⟩) (Nat.le_refl _) _⟩
/-- What is told of an entry: as much as is seen, or nothing. -/
def VePost (q : Bool) (dn : List UInt8) (L : List Atr) (w : World) (en : Ending) (w' : World) : Prop :=
  ((q = false ∧ en = .returned (.tuple #[.agg #[.string ⟨#[]⟩, .slice none 0 0], .bool false])) ∨ (q = true ∧ ∃ a c, en = .returned (.tuple #[.agg #[.string ⟨dn.toArray⟩, .slice a L.length c], .bool true]) ∧ PaAt w' (.slice a L.length c) L)) ∧ Below w.heap.size w w'
set_option maxHeartbeats 3200000 in
set_option maxRecDepth 100000 in
theorem ventry_no (A : List Atr) (L : List Rl) (dn s : List UInt8) (lv av : Value) (w : World) (he : ErrOk w) (hL : RlAt w lv L) (h : EaAt w av A) (hq : seB L s dn = false) :
    Calls Tryz.prog 20 #[lv, .string ⟨s.toArray⟩, .agg #[.string ⟨dn.toArray⟩, av]] w (VePost false dn (vwA L s dn A) w) := by
  obtain ⟨a, c, rfl⟩ := eaAt_slice h
  obtain ⟨W1, hW1⟩ : ∃ W1, (w.alloc (.cells #[.string ⟨dn.toArray⟩, .slice a A.length c] 40)).alloc (.cells #[.string ⟨#[]⟩, .slice none 0 0] 40) = W1 := ⟨_, rfl⟩
  obtain ⟨x0, x1, hb1, hz1⟩ := boxes10 hW1
  have HS := Lib.hid (seen_any lv L s dn W1 (errOk_below he hb1) (rlAt_below hL hb1))
  rw [hq] at HS
  obtain ⟨la, lc, rfl, _⟩ := id hL
  have HW1 := Lib.hid hW1
  obtain ⟨n, hn⟩ : ∃ n, A.length = n := ⟨_, rfl⟩
  rw [hn] at HW1 x0 ⊢
  obtain ⟨ln, hln⟩ : ∃ n, L.length = n := ⟨_, rfl⟩
  rw [hln] at HS ⊢
  have HX := Lib.hid (And.intro x0 (And.intro x1 (And.intro hb1 hz1)))
  obtain ⟨e0, e1⟩ := obj2s x0
  rw [← hW1] at e0 e1
  clear he hL h hq x0 x1 hb1 hz1 hn hln hW1
  go_enter Tryz.func20, Tryz.ntmps20
  go_wp2_with fail
  rw [HW1.out]
  refine HS.out.mono ?_
  rintro e w2 ⟨rfl, hb2⟩
  clear e0 e1
  have y2 := obj_below HX.out.2.1 hb2 (by have := HX.out.2.2.2; omega)
  have HY := Lib.hid (And.intro y2 (HX.out.2.2.1.trans (hb2.mono HX.out.2.2.1.size)))
  obtain ⟨r0, r1⟩ := obj2s y2
  have f0 := obj_free y2 0
  have f1 := obj_free y2 1
  clear hb2 y2
  go_wp2
  obtain ⟨j0, j1⟩ := obj2s (set2_e HY.out.1 (.string ⟨#[]⟩) (.slice none 0 0))
  refine bodyPost_ret (v := .tuple #[.agg #[.string ⟨#[]⟩, .slice none 0 0], .bool false]) (by simp [results, Tryz.results20, go_sem, *]) rfl ?_
  exact ⟨.inl ⟨rfl, rfl⟩, below_e2 HY.out.2 (by omega) _ _⟩
set_option maxHeartbeats 6400000 in
set_option maxRecDepth 100000 in
theorem ventry_yes (A : List Atr) (L : List Rl) (dn s : List UInt8) (lv av : Value) (w : World) (he : ErrOk w) (hL : RlAt w lv L) (h : EaAt w av A) (hf : FewE A) (hq : seB L s dn = true) :
    Calls Tryz.prog 20 #[lv, .string ⟨s.toArray⟩, .agg #[.string ⟨dn.toArray⟩, av]] w (VePost true dn (vwA L s dn A) w) := by
  have hck : ckA L = 0 := al_ck hq
  have hll : L.length ≤ 1000 := by have := (ck_all hck).1; omega
  obtain ⟨a, c, rfl⟩ := eaAt_slice h
  obtain ⟨W1, hW1⟩ : ∃ W1, (w.alloc (.cells #[.string ⟨dn.toArray⟩, .slice a A.length c] 40)).alloc (.cells #[.string ⟨#[]⟩, .slice none 0 0] 40) = W1 := ⟨_, rfl⟩
  obtain ⟨x0, x1, hb1, hz1⟩ := boxes10 hW1
  have HE := Lib.hid (fun w' (hb : Below W1.heap.size W1 w') => errOk_below (errOk_below he hb1) hb)
  have HE0 := Lib.hid (fun w' (hb : Below w.heap.size w w') => errOk_below he hb)
  have HS := Lib.hid (seen_any lv L s dn W1 (errOk_below he hb1) (rlAt_below hL hb1))
  rw [hq] at HS
  have HRd := Lib.hid (fun w' (hb : Below W1.heap.size W1 w') => reader_any lv L s dn w' (HE.out w' hb) hll (rlAt_below (rlAt_below hL hb1) hb))
  have HCl := Lib.hid (fun w' (hb : Below W1.heap.size W1 w') => eclean_any A dn _ w' (eaAt_below (eaAt_below h hb1) hb) hf)
  have HCf := Lib.hid (fewG_cl (m := 1000) (k := 1000) hf)
  have HNe := Lib.hid (fun x t => ne_al hck s dn x t)
  have HV : Hid (vwA L s dn A = (clA A).filter fun q => !(!rdB L s dn q.1)) := Lib.hid (by unfold vwA; simp)
  obtain ⟨la, lc, rfl, _⟩ := id hL
  have HW1 := Lib.hid hW1
  obtain ⟨n, hn⟩ : ∃ n, A.length = n := ⟨_, rfl⟩
  rw [hn] at HCl HW1 x0 ⊢
  obtain ⟨ln, hln⟩ : ∃ n, L.length = n := ⟨_, rfl⟩
  rw [hln] at HS HRd ⊢
  have HX := Lib.hid (And.intro x0 (And.intro x1 (And.intro hb1 hz1)))
  obtain ⟨R, hR⟩ : ∃ R, clA A = R := ⟨_, rfl⟩
  rw [hR] at HCl HCf HV
  obtain ⟨F, hF⟩ : ∃ F, vwA L s dn A = F := ⟨_, rfl⟩
  rw [hF] at HV ⊢
  obtain ⟨e0, e1⟩ := obj2s x0
  rw [← hW1] at e0 e1
  have hz0 : w.heap.size < W1.heap.size := by omega
  have hz01 : w.heap.size + 1 < W1.heap.size := by omega
  clear he hL h hq x0 x1 hb1 hn hln hW1 hck hll hR hF hf hz1
  go_enter Tryz.func20, Tryz.ntmps20
  go_wp2_with fail
  rw [HW1.out]
  refine HS.out.mono ?_
  rintro e w2 ⟨rfl, hb2⟩
  clear e0 e1
  obtain ⟨e0, e1⟩ := obj2s (obj_below HX.out.1 hb2 hz0)
  have HB2 := Lib.hid hb2
  clear hb2
  go_wp2_with fail
  refine (HRd.out _ HB2.out).mono ?_
  rintro e w3 ⟨bn, bw, rfl, hrf, hb3⟩
  clear e0 e1
  have hb13 := HB2.out.trans (hb3.mono HB2.out.size)
  obtain ⟨W4, hW4⟩ : ∃ W4, w3.alloc (.cells #[.func (.func 55) #[] #[.pointer (some ⟨bn, 0, none⟩), .pointer (some ⟨bw, 0, none⟩)]] 57) = W4 := ⟨_, rfl⟩
  have hb34 : Below w3.heap.size w3 W4 := by rw [← hW4]; exact (Below.refl _ w3).alloc (Nat.le_refl _) _
  have n8 : W4.heap[w3.heap.size]? = some (.cells #[.func (.func 55) #[] #[.pointer (some ⟨bn, 0, none⟩), .pointer (some ⟨bw, 0, none⟩)]] 57 (0, 0)) := by rw [← hW4]; exact heap_alloc_new w3 _
  have hb14 := hb13.trans (hb34.mono hb13.size)
  have hrf4 := rdFn_below hrf hb34
  obtain ⟨fv, hfv⟩ : ∃ fv, Value.func (.func 55) #[] #[.pointer (some ⟨bn, 0, none⟩), .pointer (some ⟨bw, 0, none⟩)] = fv := ⟨_, rfl⟩
  rw [hfv] at n8 hrf4
  have HFv := Lib.hid hfv
  have h4 := obj_below HX.out.1 hb14 hz0
  obtain ⟨e0, e1⟩ := obj2s h4
  rw [← hW4] at e0 e1
  have hw23 : w2.heap.size ≤ w3.heap.size := hb3.size
  have hw12 : W1.heap.size ≤ w2.heap.size := HB2.out.size
  have H4 := Lib.hid (And.intro hb14 (And.intro n8 hrf4))
  have HW4 := Lib.hid hW4
  clear hrf hb3 hb13 hW4 hb34 n8 hb14 hrf4 hfv h4
  go_wp2_with fail
  rw [HW4.out]
  refine (HCl.out _ H4.out.1).mono ?_
  rintro e w5 ⟨v, Lq, rfl, hok, hr, hb5⟩
  clear e0 e1
  have hRl := HCf.out.1
  have hb15 := H4.out.1.trans (hb5.mono H4.out.1.size)
  have y5 := obj_below HX.out.1 hb15 hz0
  have q5 := obj_below HX.out.2.1 hb15 hz01
  have r5 := rdFn_below H4.out.2.2 hb5
  have n5 := obj_below H4.out.2.1 hb5 (obj_lt H4.out.2.1)
  have hz34 : w3.heap.size < W4.heap.size := obj_lt H4.out.2.1
  obtain ⟨va, vc, rfl⟩ := ownsRow_slice hr
  obtain ⟨W6, hW6⟩ : ∃ W6, (w5.setCell ⟨w.heap.size, 0, none⟩ (.string ⟨dn.toArray⟩)).setCell ⟨w.heap.size, 1, none⟩ (.slice va R.length vc) = W6 := ⟨_, rfl⟩
  have hch6 : Chg (fun k => k = w.heap.size) w5 W6 := by
    rw [← hW6]
    exact ((Chg.refl (fun k => k = w.heap.size) w5).setCell (p := ⟨w.heap.size, 0, none⟩) (fun _ => rfl) _).setCell (p := ⟨w.heap.size, 1, none⟩) (fun _ => rfl) _
  have hst6 : VwSt w dn R (.slice va R.length vc) Lq W4.heap.size W6 := by
    rw [← hW6]
    exact ⟨set2_e y5 _ _, obj_set_other (obj_set_other q5 (by show _ ≠ w.heap.size; omega) _) (by show _ ≠ w.heap.size; omega) _, atOk_set2 hok y5 (by decide) _ _, own_set2 hr y5 (by decide) _ _, by omega, below_e2 (HX.out.2.2.1.trans (hb15.mono HX.out.2.2.1.size)) (Nat.le_refl _) _ _⟩
  have r6 := rdFn_chg r5 hch6 (fun k hk1 hk2 e => by have e : k = w.heap.size := e; omega)
  have n6 := obj_chg n5 hch6 (fun e => by have e : w3.heap.size = w.heap.size := e; omega)
  obtain ⟨rl, hrl⟩ : ∃ x, R.length = x := ⟨_, rfl⟩
  rw [hrl] at hst6 hW6 hRl ⊢
  have HRl := Lib.hid hrl
  have hkB : ∀ k, some k = (Value.slice va rl vc).ownBlock → W4.heap.size ≤ k := fun k hk => (hst6.2.2.2.1.lt k hk.symm).1
  have hs6 : W4.heap.size ≤ W6.heap.size := by have := hch6.size; have := hb5.size; omega
  have hcl : ClE (fun t => !rdB L s dn t) (.slice va rl vc) (.pointer (some ⟨w3.heap.size, 0, none⟩)) W6 := fun W t a n c htl hch => by
    refine entry1_any (nhL L s dn) t (rdB L s dn t) w3.heap.size fv a n c W (HE0.out W (hst6.2.2.2.2.2.trans (hch.toBelow hst6.2.2.2.2.2.size (fun k _ hk => by have := hkB k hk; omega)))) (fun x => HNe.out x t) ?_ (by have := hch.size; omega) (rdFn_chg r6 hch (fun k hk1 hk2 e => by have := hkB k e; omega))
    exact (chg_cell hch (by omega) (fun e => by have := hkB _ e; omega) 0).trans (obj1s n6)
  have hr6 := hst6.2.2.2.1
  rw [HRl.out] at hr6
  have HDel := Lib.hid (delE_any (fun t => !rdB L s dn t) Lq rl W4.heap.size _ W6 _ hr6 (atOk_slice hst6.2.2.1 (fun q hq => by have := (HCf.out.2 q hq).1; omega)) hcl (by omega))
  have HW6 := Lib.hid hW6
  have HS6 := Lib.hid hst6
  obtain ⟨c0, c1⟩ := obj2s y5
  have f0 := obj_free y5 0
  have f1 := obj_free y5 1
  obtain ⟨k0, k1⟩ := obj2s hst6.1
  have m8 := obj1s n6
  rw [← hW6] at k0 k1 m8
  clear hok hr y5 q5 hb5 hst6 hW6 hrl hkB hcl hr6 hb15 r5 n5 hch6 r6 n6
  go_wp2_with fail
  rw [HW6.out]
  clear c0 c1 f0 f1 m8
  refine HDel.out.mono ?_
  rintro e w9 ⟨v', rfl, hr9, hc9⟩
  clear k0 k1
  have hB9 : ∀ k, some k = (Value.slice va rl vc).ownBlock → w.heap.size + 2 ≤ k := fun k hk => by have := (HS6.out.2.2.2.1.lt k hk.symm).1; omega
  have y9 := obj_chg HS6.out.1 hc9 (fun e => by have := hB9 _ e; omega)
  have hS10 := vwSt_del HS6.out (fun t => !rdB L s dn t) hr9 hc9
  rw [← HV.out] at hS10
  obtain ⟨za, zc, rfl⟩ := ownsRow_slice hr9
  have hfl := hS10.2.2.1.1
  obtain ⟨fl, hflx⟩ : ∃ x, F.length = x := ⟨_, rfl⟩
  rw [hflx] at hfl
  rw [hfl] at hS10 ⊢
  obtain ⟨W10, hW10⟩ : ∃ W10, w9.setCell ⟨w.heap.size, 1, none⟩ (.slice za fl zc) = W10 := ⟨_, rfl⟩
  obtain ⟨c0, c1⟩ := obj2s y9
  have f1 := obj_free y9 1
  rw [hW10] at hS10
  obtain ⟨k0, k1⟩ := obj2s hS10.1
  obtain ⟨l0, l1⟩ := obj2s hS10.2.1
  have m0 := obj_free hS10.2.1 0
  have m1 := obj_free hS10.2.1 1
  rw [← hW10] at k0 k1 l0 l1 m0 m1
  have HW10 := Lib.hid hW10
  have HS10 := Lib.hid hS10
  have HFl := Lib.hid hflx
  have hne : w.heap.size + 1 ≠ w.heap.size := by omega
  clear hr9 hc9 hB9 y9 hS10 hfl hflx hW10 HRl
  go_wp2
  rw [HW10.out]
  obtain ⟨j0, j1⟩ := obj2s (set2_e HS10.out.2.1 (.string ⟨dn.toArray⟩) (.slice za fl zc))
  refine bodyPost_ret (v := .tuple #[.agg #[.string ⟨dn.toArray⟩, .slice za fl zc], .bool true]) (by simp [results, Tryz.results20, go_sem, *]) rfl ?_
  obtain ⟨hp, hbe⟩ := vwSt_end HS10.out
  exact ⟨.inr ⟨rfl, za, zc, by rw [HFl.out], by rw [HFl.out]; exact hp⟩, hbe⟩
theorem ventry_any (A : List Atr) (L : List Rl) (dn s : List UInt8) (lv av : Value) (w : World) (he : ErrOk w) (hL : RlAt w lv L) (h : EaAt w av A) (hf : FewE A) :
    Calls Tryz.prog 20 #[lv, .string ⟨s.toArray⟩, .agg #[.string ⟨dn.toArray⟩, av]] w (VePost (seB L s dn) dn (vwA L s dn A) w) := by
  cases hq : seB L s dn with
  | false => exact ventry_no A L dn s lv av w he hL h hq
  | true => exact ventry_yes A L dn s lv av w he hL h hf hq
end Go.Proofs.YtbihhdkmmlldnaaGreatDoor
