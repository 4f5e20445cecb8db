/- The law of what is seen at most. -/
import Derived.Test.YtbihhdkmmlldnaaGreatDoorViQG
namespace Go.Proofs.YtbihhdkmmlldnaaGreatDoor
set_option linter.unusedSimpArgs false
set_option linter.unusedVariables false
open Go Go.RowKit Go.Proofs.BerK Go.Proofs.MemK Go.Proofs.UtfK

theorem ve_get {q : Bool} {dn s x : List UInt8} {L : List Rl} {A X : List Atr} (h : veR q dn (vwA L s dn A) = (x, X)) : (∀ p ∈ X, geL A p.1 = p.2 ∧ p.2 ≠ []) ∧ (q = true → x = dn) ∧ (q = false → X = []) := by
  unfold veR at h
  cases q with
  | true =>
    rw [if_pos rfl] at h
    injection h with h1 h2
    subst h1 h2
    exact ⟨fun p hp => vw_get hp, fun _ => rfl, fun h => by cases h⟩
  | false =>
    rw [if_neg (by decide)] at h
    injection h with h1 h2
    subst h1 h2
    exact ⟨fun p hp => by simp at hp, fun h => by (cases h), fun _ => rfl⟩
theorem vse_nil (s dn : List UInt8) : seB [] s dn = false := by
  unfold seB
  rw [al_gv]
  simp [gvL]
set_option maxHeartbeats 25600000 in
set_option maxRecDepth 100000 in
theorem vless_any (A : List Atr) (L : List Rl) (la : Option Addr) (lc : Nat) (dn s : List UInt8) (av : Value) (w : World) (he : ErrOk w) (hL : RlAt w (.slice la L.length lc) L) (hA : EaAt w av A) :
    Calls Tryz.prog 8 #[.slice la L.length lc, .string ⟨s.toArray⟩, .agg #[.string ⟨dn.toArray⟩, av]] w (BoolPost true w) := by
  obtain ⟨a, c, rfl⟩ := eaAt_slice hA
  obtain ⟨W, hW⟩ : ∃ W, w.alloc (.cells #[.string ⟨dn.toArray⟩, .slice a A.length c] 40) = W := ⟨_, rfl⟩
  have hb0 : Below w.heap.size w W := by rw [← hW]; exact (Below.refl _ w).alloc (Nat.le_refl _) _
  have hg : W.heap[w.heap.size]? = some (.cells #[.string ⟨dn.toArray⟩, .slice a A.length c] 40 (0, 0)) := by rw [← hW]; exact heap_alloc_new w _
  obtain ⟨d0, d1⟩ := obj2s hg
  have hz : w.heap.size < W.heap.size := obj_lt hg
  have HB0 := Lib.hid hb0
  have HLa := Lib.hid (rlAt_below hL hb0)
  have HAa := Lib.hid (eaAt_below hA hb0)
  have HE := Lib.hid (fun w' (hb : Below W.heap.size W w') => errOk_below (errOk_below he hb0) hb)
  have HF1 := Lib.hid (fun w' (hb : Below W.heap.size W w') => few16_any _ L w' (rlAt_below HLa.out hb))
  have HF9 := Lib.hid (fun w' (hb : Below W.heap.size W w') => few9_any dn A _ w' (eaAt_at (eaAt_below HAa.out hb)))
  have HAw := Lib.hid (fun w' (hb : Below W.heap.size W w') => awake17_any w' (HE.out w' hb))
  have HEn := Lib.hid (fun (hf : FewG 12 8 A) w' (hb : Below W.heap.size W w') => ventry_any A L dn s _ _ w' (HE.out w' hb) (rlAt_below HLa.out hb) (eaAt_below HAa.out hb) (fewG_e hf (by decide) (by decide)))
  have HE0n := Lib.hid (fun (hf : FewG 12 8 A) w' (hb : Below W.heap.size W w') => ventry_any A [] dn s (.slice none 0 0) _ w' (HE.out w' hb) (rlAt_nil w' none 0) (eaAt_below HAa.out hb) (fewG_e hf (by decide) (by decide)))
  have HGt0 := Lib.hid (fun (hf : FewG 12 8 A) (t : List UInt8) (ht : t.length ≤ 1000000) w' (hb : Below W.heap.size W w') => rget10_any A dn t _ w' (eaAt_at (eaAt_below HAa.out hb)) (fewG_mono hf (by decide) (by decide)) ht)
  have HOl0 := Lib.hid (fun w' (hb : Below W.heap.size W w') => old_any _ L s dn w' (HE.out w' hb) (rlAt_below HLa.out hb))
  have hfa := fun h => fewA_attr (L := L) h
  obtain ⟨n1, e1⟩ : ∃ q, fewA L = q := ⟨_, rfl⟩
  rw [e1] at HF1 hfa
  obtain ⟨n, hn⟩ : ∃ n, L.length = n := ⟨_, rfl⟩
  obtain ⟨m, hm⟩ : ∃ m, A.length = m := ⟨_, rfl⟩
  rw [hn] at HLa HF1 HEn HOl0 ⊢
  rw [hm] at HAa HF9 HEn HE0n hW d1 HGt0 ⊢
  have hbW : Below W.heap.size W W := Below.refl _ W
  have hways : (n1 = false ∨ (n1 = true ∧ (200 : Int) < (s.length : Int))) ∨ (n1 = true ∧ ¬ (200 : Int) < (s.length : Int)) := by
    cases n1 <;> simp <;> omega
  clear he hL hA hb0 hg e1 hn hm
  rcases hways with hways | ⟨rfl, p1⟩
  · clear hfa
    rcases hways with rfl | ⟨rfl, p1⟩
    all_goals
      go_enter Tryz.func8, Tryz.ntmps8
      go_wp2_with ((first | with_reducible refine (HF1.out _ hbW).mono ?_ | with_reducible refine (HAw.out _ hbW).mono ?_); rintro en w5 ⟨rfl, hb5⟩; have hbW := hbW.trans (hb5.mono hbW.size); have h0 := (hbW.cell (p := ⟨w.heap.size, 0, none⟩) hz).trans d0; have h1 := (hbW.cell (p := ⟨w.heap.size, 1, none⟩) hz).trans d1)
      go_ret
      exact boolPost_mk rfl (HB0.out.trans (hbW.mono HB0.out.size))
  have HFa := Lib.hid (hfa rfl)
  clear hfa
  go_enter Tryz.func8, Tryz.ntmps8
  go_wp2_with fail
  refine (HF1.out _ hbW).mono ?_
  rintro en w5 ⟨rfl, hb5⟩
  have k0 := (hb5.cell (p := ⟨w.heap.size, 0, none⟩) hz).trans d0
  have k1 := (hb5.cell (p := ⟨w.heap.size, 1, none⟩) hz).trans d1
  have B5 := Lib.hid hb5
  clear hb5 hbW
  go_wp2_with fail
  refine (HF9.out _ B5.out).mono ?_
  rintro en w6 ⟨hx, hb6⟩
  have hb06 := B5.out.trans (hb6.mono B5.out.size)
  clear k0 k1
  have k0 := (hb06.cell (p := ⟨w.heap.size, 0, none⟩) hz).trans d0
  have k1 := (hb06.cell (p := ⟨w.heap.size, 1, none⟩) hz).trans d1
  have B6 := Lib.hid hb06
  clear hb6 hb06
  rcases hx with rfl | ⟨rfl, hfew⟩
  · have hbW := B6.out
    go_wp2_with ((with_reducible refine (HAw.out _ hbW).mono ?_); rintro en w7 ⟨rfl, hb5⟩; have hbW := hbW.trans (hb5.mono hbW.size))
    go_ret
    exact boolPost_mk rfl (HB0.out.trans (hbW.mono HB0.out.size))
  have hG := few_G hfew
  have HVe := Lib.hid (ve_few (q := seB L s dn) (dn := dn) (s := s) (L := L) hG)
  have HEn1 := Lib.hid (HEn.out hG)
  have HE0 := Lib.hid (HE0n.out hG)
  have HGt := Lib.hid (HGt0.out hG)
  rw [vse_nil] at HE0
  obtain ⟨q, hq⟩ : ∃ q, seB L s dn = q := ⟨_, rfl⟩
  rw [hq] at HVe HEn1 HOl0
  have HEn := Lib.hid (fun w' (hb : Below W.heap.size W w') => (HEn1.out w' hb).mono fun en w'' h => vePost_at h)
  have HEz := Lib.hid (fun w' (hb : Below W.heap.size W w') => (HE0.out w' hb).mono fun en w'' h => vePost_at h)
  clear HEn1 HE0
  obtain ⟨⟨x, X⟩, hX⟩ : ∃ p, veR q dn (vwA L s dn A) = p := ⟨_, rfl⟩
  have HVg := Lib.hid (ve_get hX)
  rw [hX] at HVe HEn
  dsimp only at HVe HEn
  obtain ⟨xn, hxn⟩ : ∃ n, X.length = n := ⟨_, rfl⟩
  have HXn := Lib.hid hxn
  rw [hxn] at HEn
  have hxb : xn ≤ 12 := by have := HVe.out.1; omega
  clear hfew hG hq hX hxn
  go_wp2_with fail
  refine (HEn.out _ B6.out).mono ?_
  rintro en w7 ⟨⟨a1, c1, rfl, hx1⟩, hb7⟩
  have hb07 := B6.out.trans (hb7.mono B6.out.size)
  obtain ⟨W8, hW8⟩ : ∃ W8, w7.alloc (.cells #[.string ⟨x.toArray⟩, .slice a1 xn c1] 40) = W8 := ⟨_, rfl⟩
  have hb78 : Below w7.heap.size w7 W8 := by rw [← hW8]; exact (Below.refl _ w7).alloc (Nat.le_refl _) _
  have hg8 : W8.heap[w7.heap.size]? = some (.cells #[.string ⟨x.toArray⟩, .slice a1 xn c1] 40 (0, 0)) := by rw [← hW8]; exact heap_alloc_new w7 _
  have hb08 := hb07.trans (hb78.mono hb07.size)
  clear k0 k1
  have k0 := (hb08.cell (p := ⟨w.heap.size, 0, none⟩) hz).trans d0
  have k1 := (hb08.cell (p := ⟨w.heap.size, 1, none⟩) hz).trans d1
  rw [← hW8] at k0 k1
  have B8 := Lib.hid (And.intro hb08 (And.intro hg8 (eaAt_below hx1 hb78)))
  have HW8 := Lib.hid hW8
  clear hb7 hb07 hW8 hb78 hg8 hb08 hx1
  go_wp2_with fail
  rw [HW8.out]
  refine (HEz.out _ B8.out.1).mono ?_
  rintro en w9 ⟨⟨a2, c2, he9, hx2⟩, hb9⟩
  have he9 : en = .returned (.tuple #[.agg #[.string ⟨#[]⟩, .slice a2 0 c2], .bool false]) := he9
  subst he9
  have hb09 := B8.out.1.trans (hb9.mono B8.out.1.size)
  obtain ⟨W10, hW10⟩ : ∃ W10, w9.alloc (.cells #[.string ⟨#[]⟩, .slice a2 0 c2] 40) = W10 := ⟨_, rfl⟩
  have hb910 : Below w9.heap.size w9 W10 := by rw [← hW10]; exact (Below.refl _ w9).alloc (Nat.le_refl _) _
  have hb010 := hb09.trans (hb910.mono hb09.size)
  have hg8 := obj_below (obj_below B8.out.2.1 hb9 (obj_lt B8.out.2.1)) hb910 (by have := obj_lt B8.out.2.1; have := hb9.size; omega)
  have B10 := Lib.hid (And.intro hb010 (And.intro (eaAt_below (eaAt_below B8.out.2.2 hb9) hb910) hg8))
  have HW10 := Lib.hid hW10
  have HDx := Lib.hid (And.intro ((hb010.cell (p := ⟨w.heap.size, 0, none⟩) hz).trans d0) ((hb010.cell (p := ⟨w.heap.size, 1, none⟩) hz).trans d1))
  have hz10 : w.heap.size < W10.heap.size := Nat.lt_of_lt_of_le hz hb010.size
  clear k0 k1 d0 d1 hb9 hb09 hW10 hb910 hb010 hg8 hx2 hW
  go_wp2
  rw [HW10.out]
  go_loopw [11] (fun v wr => ∃ k : Nat, k ≤ xn ∧ v = .int .i64 (k : Nat) ∧ Below W10.heap.size W10 wr) (fun v _ => xn - (intOf v).toNat)
  case atStart => exact ⟨0, by omega, rfl, Below.refl _ _⟩
  case round =>
    obtain ⟨k, hk, rfl, hb⟩ := hrel
    have hg8 := obj_below B10.out.2.2 hb (obj_lt B10.out.2.2)
    obtain ⟨p0, p1⟩ := obj2s hg8
    have zp := obj_lt hg8
    have e0 := (hb.cell (p := ⟨w.heap.size, 0, none⟩) hz10).trans HDx.out.1
    have e1 := (hb.cell (p := ⟨w.heap.size, 1, none⟩) hz10).trans HDx.out.2
    have ze : w.heap.size < wr.heap.size := Nat.lt_of_lt_of_le hz10 hb.size
    have hbr := B10.out.1.trans (hb.mono B10.out.1.size)
    by_cases hlt : k < xn
    · have hkl : (k : Int) < (xn : Int) := by omega
      have hkX : k < X.length := by rw [HXn.out]; exact hlt
      have hea := eaAt_below B10.out.2.1 hb
      obtain ⟨_, a', c', hsl, hcells⟩ := hea
      injection hsl with s1 s2 s3
      subst s1 s3
      clear s2
      obtain ⟨rg, ro, vl, rfl, zr, t0, t1, htx, _⟩ := hcells k hkX
      obtain ⟨xa, xc, rfl, _⟩ := htx
      have hget := HVg.out.1 _ (List.getElem_mem hkX)
      have hfk := (HVe.out.2 _ (List.getElem_mem hkX)).1
      obtain ⟨⟨t, T⟩, hrk⟩ : ∃ x, X[k] = x := ⟨_, rfl⟩
      rw [hrk] at hget hfk t0 t1
      dsimp only at hget hfk t0 t1
      have HGe := Lib.hid (fun w' (hb' : Below wr.heap.size wr w') => HGt.out t (by omega) w' (hbr.trans (hb'.mono hbr.size)))
      rw [hget.1] at HGe
      obtain ⟨Tn, hTn⟩ : ∃ n, T.length = n := ⟨_, rfl⟩
      have hT0 : Tn ≠ 0 := by
        rw [← hTn]
        intro e
        exact hget.2 (List.eq_nil_of_length_eq_zero e)
      rw [hTn] at HGe t1
      have qz : ((Tn : Int) == 0) = false := by simpa using hT0
      have H := Lib.hid (And.intro hb hbr)
      clear hb hbr hg8 p0 hcells hget hfk hrk hTn hT0
      go_wp2_with fail
      go_region_held3 (fun w' => w'.cell? ⟨w.heap.size, 0, none⟩ = some (.string ⟨dn.toArray⟩) ∧ w'.cell? ⟨w.heap.size, 1, none⟩ = some (.slice a m c) ∧ w'.cell? ⟨w7.heap.size, 1, none⟩ = some (.slice (some ⟨rg, ro, none⟩) xn c1) ∧ w'.cell? ⟨rg, ro + k * 2, none⟩ = some (.string ⟨t.toArray⟩)) (first | exact ⟨he0, he1, hp1, ht0⟩ | exact ⟨e0, e1, p1, t0⟩ | go_keep)
        (first | (go_at_call 27; (with_reducible refine (HGe.out _ (by first | exact hbW | exact (Below.refl _ wr).drew)).mono ?_); rintro en wz ⟨⟨ga, gc, rfl⟩, hb5⟩; have hbW : Below wr.heap.size wr wz := (by first | exact hbW.trans (hb5.mono hbW.size) | exact (Below.refl _ wr).drew.trans hb5); have he0 := (hbW.cell (p := ⟨w.heap.size, 0, none⟩) ze).trans e0; have he1 := (hbW.cell (p := ⟨w.heap.size, 1, none⟩) ze).trans e1; have hp1 := (hbW.cell (p := ⟨w7.heap.size, 1, none⟩) zp).trans p1; have ht0 := (hbW.cell (p := ⟨rg, ro + k * 2, none⟩) zr).trans t0; clear hb5))
      have ht1 := (hbW.cell (p := ⟨rg, ro + k * 2 + 1, none⟩) zr).trans t1
      clear e0 e1 p1 t0 t1
      go_wp2
      exact ⟨⟨k + 1, by omega, by go_num, H.out.1.trans (hbW.mono H.out.1.size)⟩, by simp [intOf]; omega⟩
    · obtain rfl : k = xn := by omega
      have H := Lib.hid (And.intro hb hbr)
      have HOl := Lib.hid (fun w' (hb' : Below wr.heap.size wr w') => HOl0.out w' (hbr.trans (hb'.mono hbr.size)))
      have HW9 := Lib.hid (fun w' (hb' : Below wr.heap.size wr w') => HAw.out w' (hbr.trans (hb'.mono hbr.size)))
      cases q with
      | true =>
        obtain rfl := HVg.out.2.1 rfl
        change Hid (∀ w', _ → Calls Tryz.prog _ _ w' (StrPost x w')) at HOl
        clear hb hbr hg8 e1
        go_wp2_with fail
        refine wp_region_noPanic ?_
        refine wp_region_held_drew (S := fun w' => w'.cell? ⟨w7.heap.size, 0, none⟩ = some (.string ⟨x.toArray⟩) ∧ w'.cell? ⟨w7.heap.size, 1, none⟩ = some (.slice a1 k c1) ∧ w'.cell? ⟨w.heap.size, 0, none⟩ = some (.string ⟨x.toArray⟩)) (by kernel_rfl) ?_ (fun hHeld => ?_)
        · exact ⟨p0, p1, e0⟩
        refine wpAnyH_take (i := 0) (v := ?va0) rfl (by kernel_rfl) (by kernel_rfl) (by kernel_rfl) (fun _ _ _ h => h) (Or.inl ⟨by rfl, ?ya0⟩) (by assumption) ?ra0
        case ya0 => (intro w' hSw; (try dsimp only at hSw); go_simp; with_reducible rfl)
        try simp only [List.getElem_toArray, List.getElem_cons_zero, List.getElem_cons_succ, Act.put, List.setIfInBounds_toArray, List.set_cons_zero, List.set_cons_succ]
        refine wpAnyH_take (i := 1) (v := ?va1) rfl (by kernel_rfl) (by kernel_rfl) (by kernel_rfl) (fun _ _ _ h => h) (Or.inl ⟨by rfl, ?ya1⟩) (by assumption) ?ra1
        case ya1 => (intro w' hSw; (try dsimp only at hSw); go_simp; with_reducible rfl)
        try simp only [List.getElem_toArray, List.getElem_cons_zero, List.getElem_cons_succ, Act.put, List.setIfInBounds_toArray, List.set_cons_zero, List.set_cons_succ]
        refine wpAnyH_take (i := 2) (v := ?va2) rfl (by kernel_rfl) (by kernel_rfl) (by kernel_rfl) (fun _ _ _ h => h) (Or.inl ⟨by rfl, ?ya2⟩) (by assumption) ?ra2
        case ya2 => (intro w' hSw; (try dsimp only at hSw); go_simp; with_reducible rfl)
        try simp only [List.getElem_toArray, List.getElem_cons_zero, List.getElem_cons_succ, Act.put, List.setIfInBounds_toArray, List.set_cons_zero, List.set_cons_succ]
        refine wpAnyH_take (i := 3) (v := ?va3) rfl (by kernel_rfl) (by kernel_rfl) (by kernel_rfl) (fun _ _ _ h => h) (Or.inl ⟨by rfl, ?ya3⟩) (by assumption) ?ra3
        case ya3 => (intro w' hSw; (try dsimp only at hSw); go_simp; with_reducible rfl)
        try simp only [List.getElem_toArray, List.getElem_cons_zero, List.getElem_cons_succ, Act.put, List.setIfInBounds_toArray, List.set_cons_zero, List.set_cons_succ]
        refine wpAnyH_take (i := 4) (v := ?va4) rfl (by kernel_rfl) (by kernel_rfl) (by kernel_rfl) (fun _ _ _ h => h) (Or.inl ⟨by rfl, ?ya4⟩) (by assumption) ?ra4
        case ya4 => (intro w' hSw; (try dsimp only at hSw); go_simp; with_reducible rfl)
        try simp only [List.getElem_toArray, List.getElem_cons_zero, List.getElem_cons_succ, Act.put, List.setIfInBounds_toArray, List.set_cons_zero, List.set_cons_succ]
        refine wpAnyH_take (i := 5) (v := undef) rfl (by kernel_rfl) (by kernel_rfl) (by kernel_rfl) (fun _ _ _ h => h) (Or.inr ⟨by rfl, rfl⟩) (by assumption) ?_
        try simp only [List.getElem_toArray, List.getElem_cons_zero, List.getElem_cons_succ, Act.put, List.setIfInBounds_toArray, List.set_cons_zero, List.set_cons_succ]
        refine wpAnyH_take (i := 6) (v := undef) rfl (by kernel_rfl) (by kernel_rfl) (by kernel_rfl) (fun _ _ _ h => h) (Or.inr ⟨by rfl, rfl⟩) (by assumption) ?_
        try simp only [List.getElem_toArray, List.getElem_cons_zero, List.getElem_cons_succ, Act.put, List.setIfInBounds_toArray, List.set_cons_zero, List.set_cons_succ]
        refine wpAnyH_take (i := 7) (v := undef) rfl (by kernel_rfl) (by kernel_rfl) (by kernel_rfl) (fun _ _ _ h => h) (Or.inr ⟨by rfl, rfl⟩) (by assumption) ?_
        try simp only [List.getElem_toArray, List.getElem_cons_zero, List.getElem_cons_succ, Act.put, List.setIfInBounds_toArray, List.set_cons_zero, List.set_cons_succ]
        refine wpAnyH_take (i := 8) (v := undef) rfl (by kernel_rfl) (by kernel_rfl) (by kernel_rfl) (fun _ _ _ h => h) (Or.inr ⟨by rfl, rfl⟩) (by assumption) ?_
        try simp only [List.getElem_toArray, List.getElem_cons_zero, List.getElem_cons_succ, Act.put, List.setIfInBounds_toArray, List.set_cons_zero, List.set_cons_succ]
        refine wpAnyH_take (i := 9) (v := ?va9) rfl (by kernel_rfl) (by kernel_rfl) (by kernel_rfl) (fun _ _ _ h => h) (Or.inl ⟨by rfl, ?ya9⟩) (by assumption) ?ra9
        case ya9 => (intro w' hSw; (try dsimp only at hSw); go_simp; with_reducible rfl)
        try simp only [List.getElem_toArray, List.getElem_cons_zero, List.getElem_cons_succ, Act.put, List.setIfInBounds_toArray, List.set_cons_zero, List.set_cons_succ]
        refine wpAnyH_take (i := 10) (v := ?va10) rfl (by kernel_rfl) (by kernel_rfl) (by kernel_rfl) (fun _ _ _ h => h) (Or.inl ⟨by rfl, ?ya10⟩) (by assumption) ?ra10
        case ya10 => (intro w' hSw; (try dsimp only at hSw); go_simp; with_reducible rfl)
        try simp only [List.getElem_toArray, List.getElem_cons_zero, List.getElem_cons_succ, Act.put, List.setIfInBounds_toArray, List.set_cons_zero, List.set_cons_succ]
        refine wpAnyH_take (i := 11) (v := ?va11) rfl (by kernel_rfl) (by kernel_rfl) (by kernel_rfl) (fun _ _ _ h => h) (Or.inl ⟨by rfl, ?ya11⟩) (by assumption) ?ra11
        case ya11 => (intro w' hSw; (try dsimp only at hSw); go_simp; with_reducible rfl)
        try simp only [List.getElem_toArray, List.getElem_cons_zero, List.getElem_cons_succ, Act.put, List.setIfInBounds_toArray, List.set_cons_zero, List.set_cons_succ]
        refine wpAnyH_take (i := 12) (v := ?va12) rfl (by kernel_rfl) (by kernel_rfl) (by kernel_rfl) (fun _ _ _ h => h) (Or.inl ⟨by rfl, ?ya12⟩) (by assumption) ?ra12
        case ya12 => (intro w' hSw; (try dsimp only at hSw); go_simp; with_reducible rfl)
        try simp only [List.getElem_toArray, List.getElem_cons_zero, List.getElem_cons_succ, Act.put, List.setIfInBounds_toArray, List.set_cons_zero, List.set_cons_succ]
        refine wpAnyH_take (i := 13) (v := ?va13) rfl (by kernel_rfl) (by kernel_rfl) (by kernel_rfl) (fun _ _ _ h => h) (Or.inl ⟨by rfl, ?ya13⟩) (by assumption) ?ra13
        case ya13 => (intro w' hSw; (try dsimp only at hSw); go_simp; with_reducible rfl)
        try simp only [List.getElem_toArray, List.getElem_cons_zero, List.getElem_cons_succ, Act.put, List.setIfInBounds_toArray, List.set_cons_zero, List.set_cons_succ]
        refine wpAnyH_take (i := 14) (v := ?va14) rfl (by kernel_rfl) (by kernel_rfl) (by kernel_rfl) (fun _ _ _ h => h) (Or.inl ⟨by rfl, ?ya14⟩) (by assumption) ?ra14
        case ya14 => (intro w' hSw; (try dsimp only at hSw); go_simp; with_reducible rfl)
        try simp only [List.getElem_toArray, List.getElem_cons_zero, List.getElem_cons_succ, Act.put, List.setIfInBounds_toArray, List.set_cons_zero, List.set_cons_succ]
        refine wpAnyH_take (i := 15) (v := ?va15) rfl (by kernel_rfl) (by kernel_rfl) (by kernel_rfl) (fun _ _ _ h => h) (Or.inl ⟨by rfl, ?ya15⟩) (by assumption) ?ra15
        case ya15 => (intro w' hSw; (try dsimp only at hSw); go_simp; with_reducible rfl)
        try simp only [List.getElem_toArray, List.getElem_cons_zero, List.getElem_cons_succ, Act.put, List.setIfInBounds_toArray, List.set_cons_zero, List.set_cons_succ]
        refine wpAnyH_take (i := 16) (v := ?va16) rfl (by kernel_rfl) (by kernel_rfl) (by kernel_rfl) (fun _ _ _ h => h) (Or.inl ⟨by rfl, ?ya16⟩) (by assumption) ?ra16
        case ya16 => (intro w' hSw; (try dsimp only at hSw); go_simp; with_reducible rfl)
        try simp only [List.getElem_toArray, List.getElem_cons_zero, List.getElem_cons_succ, Act.put, List.setIfInBounds_toArray, List.set_cons_zero, List.set_cons_succ]
        refine wpAnyH_take (i := 17) (v := ?va17) rfl (by kernel_rfl) (by kernel_rfl) (by kernel_rfl) (fun _ _ _ h => h) (Or.inl ⟨by rfl, ?ya17⟩) (by assumption) ?ra17
        case ya17 => (intro w' hSw; (try dsimp only at hSw); go_simp; with_reducible rfl)
        try simp only [List.getElem_toArray, List.getElem_cons_zero, List.getElem_cons_succ, Act.put, List.setIfInBounds_toArray, List.set_cons_zero, List.set_cons_succ]
        refine wpAnyH_take (i := 18) (v := ?va18) rfl (by kernel_rfl) (by kernel_rfl) (by kernel_rfl) (fun _ _ _ h => h) (Or.inl ⟨by rfl, ?ya18⟩) (by assumption) ?ra18
        case ya18 => (intro w' hSw; (try dsimp only at hSw); go_simp; with_reducible rfl)
        try simp only [List.getElem_toArray, List.getElem_cons_zero, List.getElem_cons_succ, Act.put, List.setIfInBounds_toArray, List.set_cons_zero, List.set_cons_succ]
        refine wpAnyH_take (i := 19) (v := ?va19) rfl (by kernel_rfl) (by kernel_rfl) (by kernel_rfl) (fun _ _ _ h => h) (Or.inl ⟨by rfl, ?ya19⟩) (by assumption) ?ra19
        case ya19 => (intro w' hSw; (try dsimp only at hSw); go_simp; with_reducible rfl)
        try simp only [List.getElem_toArray, List.getElem_cons_zero, List.getElem_cons_succ, Act.put, List.setIfInBounds_toArray, List.set_cons_zero, List.set_cons_succ]
        refine wpAnyH_take (i := 20) (v := ?va20) rfl (by kernel_rfl) (by kernel_rfl) (by kernel_rfl) (fun _ _ _ h => h) (Or.inl ⟨by rfl, ?ya20⟩) (by assumption) ?ra20
        case ya20 => (intro w' hSw; (try dsimp only at hSw); go_simp; with_reducible rfl)
        try simp only [List.getElem_toArray, List.getElem_cons_zero, List.getElem_cons_succ, Act.put, List.setIfInBounds_toArray, List.set_cons_zero, List.set_cons_succ]
        refine wpAnyH_take (i := 21) (v := ?va21) rfl (by kernel_rfl) (by kernel_rfl) (by kernel_rfl) (fun _ _ _ h => h) (Or.inl ⟨by rfl, ?ya21⟩) (by assumption) ?ra21
        case ya21 => (intro w' hSw; (try dsimp only at hSw); go_simp; with_reducible rfl)
        try simp only [List.getElem_toArray, List.getElem_cons_zero, List.getElem_cons_succ, Act.put, List.setIfInBounds_toArray, List.set_cons_zero, List.set_cons_succ]
        refine wpAnyH_take (i := 22) (v := ?va22) rfl (by kernel_rfl) (by kernel_rfl) (by kernel_rfl) (fun _ _ _ h => h) (Or.inl ⟨by rfl, ?ya22⟩) (by assumption) ?ra22
        case ya22 => (intro w' hSw; (try dsimp only at hSw); go_simp; with_reducible rfl)
        try simp only [List.getElem_toArray, List.getElem_cons_zero, List.getElem_cons_succ, Act.put, List.setIfInBounds_toArray, List.set_cons_zero, List.set_cons_succ]
        refine wpAnyH_take (i := 23) (v := ?va23) rfl (by kernel_rfl) (by kernel_rfl) (by kernel_rfl) (fun _ _ _ h => h) (Or.inl ⟨by rfl, ?ya23⟩) (by assumption) ?ra23
        case ya23 => (intro w' hSw; (try dsimp only at hSw); go_simp; with_reducible rfl)
        try simp only [List.getElem_toArray, List.getElem_cons_zero, List.getElem_cons_succ, Act.put, List.setIfInBounds_toArray, List.set_cons_zero, List.set_cons_succ]
        refine wpAnyH_take (i := 24) (v := ?va24) rfl (by kernel_rfl) (by kernel_rfl) (by kernel_rfl) (fun _ _ _ h => h) (Or.inl ⟨by rfl, ?ya24⟩) (by assumption) ?ra24
        case ya24 => (intro w' hSw; (try dsimp only at hSw); go_simp; with_reducible rfl)
        try simp only [List.getElem_toArray, List.getElem_cons_zero, List.getElem_cons_succ, Act.put, List.setIfInBounds_toArray, List.set_cons_zero, List.set_cons_succ]
        refine wpAnyH_take (i := 26) (v := ?va26) rfl (by kernel_rfl) (by kernel_rfl) (by kernel_rfl) (fun _ _ _ h => h) (Or.inl ⟨by rfl, ?ya26⟩) (by assumption) ?ra26
        case ya26 => (intro w' hSw; (try dsimp only at hSw); go_simp; with_reducible rfl)
        try simp only [List.getElem_toArray, List.getElem_cons_zero, List.getElem_cons_succ, Act.put, List.setIfInBounds_toArray, List.set_cons_zero, List.set_cons_succ]
        refine wpAnyH_take (i := 27) (v := ?va27) rfl (by kernel_rfl) (by kernel_rfl) (by kernel_rfl) (fun _ _ _ h => h) (Or.inl ⟨by rfl, ?ya27⟩) (by assumption) ?ra27
        case ya27 => (intro w' hSw; (try dsimp only at hSw); go_simp; with_reducible rfl)
        try simp only [List.getElem_toArray, List.getElem_cons_zero, List.getElem_cons_succ, Act.put, List.setIfInBounds_toArray, List.set_cons_zero, List.set_cons_succ]
        refine wpAnyH_ready (rs := [25]) (by kernel_rfl) (by simp) ?_
        refine AllReadyH.cons (o := _) rfl (fun K hK => ?ca25) ?na25
        case na25 => exact AllReadyH.nil
        go_simp
        go_at_call 25
        with_reducible refine (HOl.out _ (by first | exact hbW | exact (Below.refl _ wr).drew)).mono ?_
        rintro en wz ⟨rfl, hb5⟩
        have hbW : Below wr.heap.size wr wz := (by first | exact hbW.trans (hb5.mono hbW.size) | exact (Below.refl _ wr).drew.trans hb5)
        have hp0 := (hbW.cell (p := ⟨w7.heap.size, 0, none⟩) zp).trans p0
        have hp1 := (hbW.cell (p := ⟨w7.heap.size, 1, none⟩) zp).trans p1
        have he0 := (hbW.cell (p := ⟨w.heap.size, 0, none⟩) ze).trans e0
        clear hb5
        go_wp2_with fail
        refine hK.out _ _ ?_ (fun hHeld => ?_)
        · exact ⟨hp0, hp1, he0⟩
        clear hK K
        try simp only [List.getElem_toArray, List.getElem_cons_zero, List.getElem_cons_succ, Act.put, List.setIfInBounds_toArray, List.set_cons_zero, List.set_cons_succ]
        refine wpAnyH_take (i := 28) (v := ?va28) rfl (by kernel_rfl) (by kernel_rfl) (by kernel_rfl) (fun _ _ _ h => h) (Or.inl ⟨by rfl, ?ya28⟩) (by assumption) ?ra28
        case ya28 => (intro w' hSw; (try dsimp only at hSw); go_simp; with_reducible rfl)
        try simp only [List.getElem_toArray, List.getElem_cons_zero, List.getElem_cons_succ, Act.put, List.setIfInBounds_toArray, List.set_cons_zero, List.set_cons_succ]
        refine wpAnyH_take (i := 29) (v := ?va29) rfl (by kernel_rfl) (by kernel_rfl) (by kernel_rfl) (fun _ _ _ h => h) (Or.inl ⟨by rfl, ?ya29⟩) (by assumption) ?ra29
        case ya29 => (intro w' hSw; (try dsimp only at hSw); go_simp; with_reducible rfl)
        try simp only [List.getElem_toArray, List.getElem_cons_zero, List.getElem_cons_succ, Act.put, List.setIfInBounds_toArray, List.set_cons_zero, List.set_cons_succ]
        refine wpAnyH_take (i := 30) (v := ?va30) rfl (by kernel_rfl) (by kernel_rfl) (by kernel_rfl) (fun _ _ _ h => h) (Or.inl ⟨by rfl, ?ya30⟩) (by assumption) ?ra30
        case ya30 => (intro w' hSw; (try dsimp only at hSw); go_simp; with_reducible rfl)
        try simp only [List.getElem_toArray, List.getElem_cons_zero, List.getElem_cons_succ, Act.put, List.setIfInBounds_toArray, List.set_cons_zero, List.set_cons_succ]
        refine wpAnyH_take (i := 31) (v := ?va31) rfl (by kernel_rfl) (by kernel_rfl) (by kernel_rfl) (fun _ _ _ h => h) (Or.inl ⟨by rfl, ?ya31⟩) (by assumption) ?ra31
        case ya31 => (intro w' hSw; (try dsimp only at hSw); go_simp; with_reducible rfl)
        try simp only [List.getElem_toArray, List.getElem_cons_zero, List.getElem_cons_succ, Act.put, List.setIfInBounds_toArray, List.set_cons_zero, List.set_cons_succ]
        refine wpAnyH_take (i := 32) (v := ?va32) rfl (by kernel_rfl) (by kernel_rfl) (by kernel_rfl) (fun _ _ _ h => h) (Or.inl ⟨by rfl, ?ya32⟩) (by assumption) ?ra32
        case ya32 => (intro w' hSw; (try dsimp only at hSw); go_simp; with_reducible rfl)
        try simp only [List.getElem_toArray, List.getElem_cons_zero, List.getElem_cons_succ, Act.put, List.setIfInBounds_toArray, List.set_cons_zero, List.set_cons_succ]
        refine wpAnyH_ready (rs := [33]) (by kernel_rfl) (by simp) ?_
        refine AllReadyH.cons (o := _) rfl (fun K hK => ?ca33) ?na33
        case na33 => exact AllReadyH.nil
        go_simp
        go_at_call 19
        with_reducible refine (HW9.out _ (by first | exact hbW | exact (Below.refl _ wr).drew)).mono ?_
        rintro en wz ⟨rfl, hb5⟩
        have hbW : Below wr.heap.size wr wz := (by first | exact hbW.trans (hb5.mono hbW.size) | exact (Below.refl _ wr).drew.trans hb5)
        have hp0 := (hbW.cell (p := ⟨w7.heap.size, 0, none⟩) zp).trans p0
        have hp1 := (hbW.cell (p := ⟨w7.heap.size, 1, none⟩) zp).trans p1
        have he0 := (hbW.cell (p := ⟨w.heap.size, 0, none⟩) ze).trans e0
        clear hb5
        go_wp2_with fail
        refine hK.out _ _ ?_ (fun hHeld => ?_)
        · exact ⟨hp0, hp1, he0⟩
        clear hK K
        try simp only [List.getElem_toArray, List.getElem_cons_zero, List.getElem_cons_succ, Act.put, List.setIfInBounds_toArray, List.set_cons_zero, List.set_cons_succ]
        refine wpAnyH_take (i := 34) (v := ?va34) rfl (by kernel_rfl) (by kernel_rfl) (by kernel_rfl) (fun _ _ _ h => h) (Or.inl ⟨by rfl, ?ya34⟩) (by assumption) ?ra34
        case ya34 => (intro w' hSw; (try dsimp only at hSw); go_simp; with_reducible rfl)
        try simp only [List.getElem_toArray, List.getElem_cons_zero, List.getElem_cons_succ, Act.put, List.setIfInBounds_toArray, List.set_cons_zero, List.set_cons_succ]
        refine wpAnyH_take (i := 35) (v := ?va35) rfl (by kernel_rfl) (by kernel_rfl) (by kernel_rfl) (fun _ _ _ h => h) (Or.inl ⟨by rfl, ?ya35⟩) (by assumption) ?ra35
        case ya35 => (intro w' hSw; (try dsimp only at hSw); go_simp; with_reducible rfl)
        try simp only [List.getElem_toArray, List.getElem_cons_zero, List.getElem_cons_succ, Act.put, List.setIfInBounds_toArray, List.set_cons_zero, List.set_cons_succ]
        refine wpAnyH_done (by kernel_rfl) ?_ _
        refine NoPanic.normal ?_
        all_goals
          go_wp2
          go_ret
          exact boolPost_mk (by first | rfl | simp) (HB0.out.trans ((H.out.2.trans (hbW.mono H.out.2.size)).mono HB0.out.size))
      | false =>
        have hX0 := HVg.out.2.2 rfl
        have hk0 : k = 0 := by rw [← HXn.out, hX0]; rfl
        subst hk0
        clear hb hbr hg8 e1 hX0
        go_wp2_with fail
        refine wp_region_noPanic ?_
        refine wp_region_held_drew (S := fun w' => w'.cell? ⟨w7.heap.size, 0, none⟩ = some (.string ⟨x.toArray⟩) ∧ w'.cell? ⟨w7.heap.size, 1, none⟩ = some (.slice a1 0 c1) ∧ w'.cell? ⟨w.heap.size, 0, none⟩ = some (.string ⟨dn.toArray⟩)) (by kernel_rfl) ?_ (fun hHeld => ?_)
        · exact ⟨p0, p1, e0⟩
        refine wpAnyH_take (i := 0) (v := ?vb0) rfl (by kernel_rfl) (by kernel_rfl) (by kernel_rfl) (fun _ _ _ h => h) (Or.inl ⟨by rfl, ?yb0⟩) (by assumption) ?rb0
        case yb0 => (intro w' hSw; (try dsimp only at hSw); go_simp; with_reducible rfl)
        try simp only [List.getElem_toArray, List.getElem_cons_zero, List.getElem_cons_succ, Act.put, List.setIfInBounds_toArray, List.set_cons_zero, List.set_cons_succ]
        refine wpAnyH_take (i := 1) (v := ?vb1) rfl (by kernel_rfl) (by kernel_rfl) (by kernel_rfl) (fun _ _ _ h => h) (Or.inl ⟨by rfl, ?yb1⟩) (by assumption) ?rb1
        case yb1 => (intro w' hSw; (try dsimp only at hSw); go_simp; with_reducible rfl)
        try simp only [List.getElem_toArray, List.getElem_cons_zero, List.getElem_cons_succ, Act.put, List.setIfInBounds_toArray, List.set_cons_zero, List.set_cons_succ]
        refine wpAnyH_take (i := 2) (v := ?vb2) rfl (by kernel_rfl) (by kernel_rfl) (by kernel_rfl) (fun _ _ _ h => h) (Or.inl ⟨by rfl, ?yb2⟩) (by assumption) ?rb2
        case yb2 => (intro w' hSw; (try dsimp only at hSw); go_simp; with_reducible rfl)
        try simp only [List.getElem_toArray, List.getElem_cons_zero, List.getElem_cons_succ, Act.put, List.setIfInBounds_toArray, List.set_cons_zero, List.set_cons_succ]
        refine wpAnyH_take (i := 3) (v := ?vb3) rfl (by kernel_rfl) (by kernel_rfl) (by kernel_rfl) (fun _ _ _ h => h) (Or.inl ⟨by rfl, ?yb3⟩) (by assumption) ?rb3
        case yb3 => (intro w' hSw; (try dsimp only at hSw); go_simp; with_reducible rfl)
        try simp only [List.getElem_toArray, List.getElem_cons_zero, List.getElem_cons_succ, Act.put, List.setIfInBounds_toArray, List.set_cons_zero, List.set_cons_succ]
        refine wpAnyH_take (i := 4) (v := ?vb4) rfl (by kernel_rfl) (by kernel_rfl) (by kernel_rfl) (fun _ _ _ h => h) (Or.inl ⟨by rfl, ?yb4⟩) (by assumption) ?rb4
        case yb4 => (intro w' hSw; (try dsimp only at hSw); go_simp; with_reducible rfl)
        try simp only [List.getElem_toArray, List.getElem_cons_zero, List.getElem_cons_succ, Act.put, List.setIfInBounds_toArray, List.set_cons_zero, List.set_cons_succ]
        refine wpAnyH_take (i := 5) (v := ?vb5) rfl (by kernel_rfl) (by kernel_rfl) (by kernel_rfl) (fun _ _ _ h => h) (Or.inl ⟨by rfl, ?yb5⟩) (by assumption) ?rb5
        case yb5 => (intro w' hSw; (try dsimp only at hSw); go_simp; with_reducible rfl)
        try simp only [List.getElem_toArray, List.getElem_cons_zero, List.getElem_cons_succ, Act.put, List.setIfInBounds_toArray, List.set_cons_zero, List.set_cons_succ]
        refine wpAnyH_take (i := 6) (v := ?vb6) rfl (by kernel_rfl) (by kernel_rfl) (by kernel_rfl) (fun _ _ _ h => h) (Or.inl ⟨by rfl, ?yb6⟩) (by assumption) ?rb6
        case yb6 => (intro w' hSw; (try dsimp only at hSw); go_simp; with_reducible rfl)
        try simp only [List.getElem_toArray, List.getElem_cons_zero, List.getElem_cons_succ, Act.put, List.setIfInBounds_toArray, List.set_cons_zero, List.set_cons_succ]
        refine wpAnyH_take (i := 7) (v := ?vb7) rfl (by kernel_rfl) (by kernel_rfl) (by kernel_rfl) (fun _ _ _ h => h) (Or.inl ⟨by rfl, ?yb7⟩) (by assumption) ?rb7
        case yb7 => (intro w' hSw; (try dsimp only at hSw); go_simp; with_reducible rfl)
        try simp only [List.getElem_toArray, List.getElem_cons_zero, List.getElem_cons_succ, Act.put, List.setIfInBounds_toArray, List.set_cons_zero, List.set_cons_succ]
        refine wpAnyH_take (i := 8) (v := ?vb8) rfl (by kernel_rfl) (by kernel_rfl) (by kernel_rfl) (fun _ _ _ h => h) (Or.inl ⟨by rfl, ?yb8⟩) (by assumption) ?rb8
        case yb8 => (intro w' hSw; (try dsimp only at hSw); go_simp; with_reducible rfl)
        try simp only [List.getElem_toArray, List.getElem_cons_zero, List.getElem_cons_succ, Act.put, List.setIfInBounds_toArray, List.set_cons_zero, List.set_cons_succ]
        refine wpAnyH_take (i := 9) (v := ?vb9) rfl (by kernel_rfl) (by kernel_rfl) (by kernel_rfl) (fun _ _ _ h => h) (Or.inl ⟨by rfl, ?yb9⟩) (by assumption) ?rb9
        case yb9 => (intro w' hSw; (try dsimp only at hSw); go_simp; with_reducible rfl)
        try simp only [List.getElem_toArray, List.getElem_cons_zero, List.getElem_cons_succ, Act.put, List.setIfInBounds_toArray, List.set_cons_zero, List.set_cons_succ]
        refine wpAnyH_take (i := 10) (v := ?vb10) rfl (by kernel_rfl) (by kernel_rfl) (by kernel_rfl) (fun _ _ _ h => h) (Or.inl ⟨by rfl, ?yb10⟩) (by assumption) ?rb10
        case yb10 => (intro w' hSw; (try dsimp only at hSw); go_simp; with_reducible rfl)
        try simp only [List.getElem_toArray, List.getElem_cons_zero, List.getElem_cons_succ, Act.put, List.setIfInBounds_toArray, List.set_cons_zero, List.set_cons_succ]
        refine wpAnyH_take (i := 11) (v := ?vb11) rfl (by kernel_rfl) (by kernel_rfl) (by kernel_rfl) (fun _ _ _ h => h) (Or.inl ⟨by rfl, ?yb11⟩) (by assumption) ?rb11
        case yb11 => (intro w' hSw; (try dsimp only at hSw); go_simp; with_reducible rfl)
        try simp only [List.getElem_toArray, List.getElem_cons_zero, List.getElem_cons_succ, Act.put, List.setIfInBounds_toArray, List.set_cons_zero, List.set_cons_succ]
        refine wpAnyH_take (i := 12) (v := ?vb12) rfl (by kernel_rfl) (by kernel_rfl) (by kernel_rfl) (fun _ _ _ h => h) (Or.inl ⟨by rfl, ?yb12⟩) (by assumption) ?rb12
        case yb12 => (intro w' hSw; (try dsimp only at hSw); go_simp; with_reducible rfl)
        try simp only [List.getElem_toArray, List.getElem_cons_zero, List.getElem_cons_succ, Act.put, List.setIfInBounds_toArray, List.set_cons_zero, List.set_cons_succ]
        refine wpAnyH_take (i := 13) (v := ?vb13) rfl (by kernel_rfl) (by kernel_rfl) (by kernel_rfl) (fun _ _ _ h => h) (Or.inl ⟨by rfl, ?yb13⟩) (by assumption) ?rb13
        case yb13 => (intro w' hSw; (try dsimp only at hSw); go_simp; with_reducible rfl)
        try simp only [List.getElem_toArray, List.getElem_cons_zero, List.getElem_cons_succ, Act.put, List.setIfInBounds_toArray, List.set_cons_zero, List.set_cons_succ]
        refine wpAnyH_take (i := 14) (v := ?vb14) rfl (by kernel_rfl) (by kernel_rfl) (by kernel_rfl) (fun _ _ _ h => h) (Or.inl ⟨by rfl, ?yb14⟩) (by assumption) ?rb14
        case yb14 => (intro w' hSw; (try dsimp only at hSw); go_simp; with_reducible rfl)
        try simp only [List.getElem_toArray, List.getElem_cons_zero, List.getElem_cons_succ, Act.put, List.setIfInBounds_toArray, List.set_cons_zero, List.set_cons_succ]
        refine wpAnyH_take (i := 15) (v := undef) rfl (by kernel_rfl) (by kernel_rfl) (by kernel_rfl) (fun _ _ _ h => h) (Or.inr ⟨by rfl, rfl⟩) (by assumption) ?_
        try simp only [List.getElem_toArray, List.getElem_cons_zero, List.getElem_cons_succ, Act.put, List.setIfInBounds_toArray, List.set_cons_zero, List.set_cons_succ]
        refine wpAnyH_take (i := 16) (v := undef) rfl (by kernel_rfl) (by kernel_rfl) (by kernel_rfl) (fun _ _ _ h => h) (Or.inr ⟨by rfl, rfl⟩) (by assumption) ?_
        try simp only [List.getElem_toArray, List.getElem_cons_zero, List.getElem_cons_succ, Act.put, List.setIfInBounds_toArray, List.set_cons_zero, List.set_cons_succ]
        refine wpAnyH_take (i := 17) (v := undef) rfl (by kernel_rfl) (by kernel_rfl) (by kernel_rfl) (fun _ _ _ h => h) (Or.inr ⟨by rfl, rfl⟩) (by assumption) ?_
        try simp only [List.getElem_toArray, List.getElem_cons_zero, List.getElem_cons_succ, Act.put, List.setIfInBounds_toArray, List.set_cons_zero, List.set_cons_succ]
        refine wpAnyH_take (i := 18) (v := undef) rfl (by kernel_rfl) (by kernel_rfl) (by kernel_rfl) (fun _ _ _ h => h) (Or.inr ⟨by rfl, rfl⟩) (by assumption) ?_
        try simp only [List.getElem_toArray, List.getElem_cons_zero, List.getElem_cons_succ, Act.put, List.setIfInBounds_toArray, List.set_cons_zero, List.set_cons_succ]
        refine wpAnyH_take (i := 19) (v := undef) rfl (by kernel_rfl) (by kernel_rfl) (by kernel_rfl) (fun _ _ _ h => h) (Or.inr ⟨by rfl, rfl⟩) (by assumption) ?_
        try simp only [List.getElem_toArray, List.getElem_cons_zero, List.getElem_cons_succ, Act.put, List.setIfInBounds_toArray, List.set_cons_zero, List.set_cons_succ]
        refine wpAnyH_take (i := 20) (v := undef) rfl (by kernel_rfl) (by kernel_rfl) (by kernel_rfl) (fun _ _ _ h => h) (Or.inr ⟨by rfl, rfl⟩) (by assumption) ?_
        try simp only [List.getElem_toArray, List.getElem_cons_zero, List.getElem_cons_succ, Act.put, List.setIfInBounds_toArray, List.set_cons_zero, List.set_cons_succ]
        refine wpAnyH_take (i := 21) (v := undef) rfl (by kernel_rfl) (by kernel_rfl) (by kernel_rfl) (fun _ _ _ h => h) (Or.inr ⟨by rfl, rfl⟩) (by assumption) ?_
        try simp only [List.getElem_toArray, List.getElem_cons_zero, List.getElem_cons_succ, Act.put, List.setIfInBounds_toArray, List.set_cons_zero, List.set_cons_succ]
        refine wpAnyH_take (i := 22) (v := undef) rfl (by kernel_rfl) (by kernel_rfl) (by kernel_rfl) (fun _ _ _ h => h) (Or.inr ⟨by rfl, rfl⟩) (by assumption) ?_
        try simp only [List.getElem_toArray, List.getElem_cons_zero, List.getElem_cons_succ, Act.put, List.setIfInBounds_toArray, List.set_cons_zero, List.set_cons_succ]
        refine wpAnyH_take (i := 23) (v := undef) rfl (by kernel_rfl) (by kernel_rfl) (by kernel_rfl) (fun _ _ _ h => h) (Or.inr ⟨by rfl, rfl⟩) (by assumption) ?_
        try simp only [List.getElem_toArray, List.getElem_cons_zero, List.getElem_cons_succ, Act.put, List.setIfInBounds_toArray, List.set_cons_zero, List.set_cons_succ]
        refine wpAnyH_take (i := 24) (v := undef) rfl (by kernel_rfl) (by kernel_rfl) (by kernel_rfl) (fun _ _ _ h => h) (Or.inr ⟨by rfl, rfl⟩) (by assumption) ?_
        try simp only [List.getElem_toArray, List.getElem_cons_zero, List.getElem_cons_succ, Act.put, List.setIfInBounds_toArray, List.set_cons_zero, List.set_cons_succ]
        refine wpAnyH_take (i := 25) (v := undef) rfl (by kernel_rfl) (by kernel_rfl) (by kernel_rfl) (fun _ _ _ h => h) (Or.inr ⟨by rfl, rfl⟩) (by assumption) ?_
        try simp only [List.getElem_toArray, List.getElem_cons_zero, List.getElem_cons_succ, Act.put, List.setIfInBounds_toArray, List.set_cons_zero, List.set_cons_succ]
        refine wpAnyH_take (i := 26) (v := undef) rfl (by kernel_rfl) (by kernel_rfl) (by kernel_rfl) (fun _ _ _ h => h) (Or.inr ⟨by rfl, rfl⟩) (by assumption) ?_
        try simp only [List.getElem_toArray, List.getElem_cons_zero, List.getElem_cons_succ, Act.put, List.setIfInBounds_toArray, List.set_cons_zero, List.set_cons_succ]
        refine wpAnyH_take (i := 27) (v := undef) rfl (by kernel_rfl) (by kernel_rfl) (by kernel_rfl) (fun _ _ _ h => h) (Or.inr ⟨by rfl, rfl⟩) (by assumption) ?_
        try simp only [List.getElem_toArray, List.getElem_cons_zero, List.getElem_cons_succ, Act.put, List.setIfInBounds_toArray, List.set_cons_zero, List.set_cons_succ]
        refine wpAnyH_take (i := 28) (v := undef) rfl (by kernel_rfl) (by kernel_rfl) (by kernel_rfl) (fun _ _ _ h => h) (Or.inr ⟨by rfl, rfl⟩) (by assumption) ?_
        try simp only [List.getElem_toArray, List.getElem_cons_zero, List.getElem_cons_succ, Act.put, List.setIfInBounds_toArray, List.set_cons_zero, List.set_cons_succ]
        refine wpAnyH_take (i := 29) (v := undef) rfl (by kernel_rfl) (by kernel_rfl) (by kernel_rfl) (fun _ _ _ h => h) (Or.inr ⟨by rfl, rfl⟩) (by assumption) ?_
        try simp only [List.getElem_toArray, List.getElem_cons_zero, List.getElem_cons_succ, Act.put, List.setIfInBounds_toArray, List.set_cons_zero, List.set_cons_succ]
        refine wpAnyH_take (i := 30) (v := ?vb30) rfl (by kernel_rfl) (by kernel_rfl) (by kernel_rfl) (fun _ _ _ h => h) (Or.inl ⟨by rfl, ?yb30⟩) (by assumption) ?rb30
        case yb30 => (intro w' hSw; (try dsimp only at hSw); go_simp; with_reducible rfl)
        try simp only [List.getElem_toArray, List.getElem_cons_zero, List.getElem_cons_succ, Act.put, List.setIfInBounds_toArray, List.set_cons_zero, List.set_cons_succ]
        refine wpAnyH_take (i := 31) (v := ?vb31) rfl (by kernel_rfl) (by kernel_rfl) (by kernel_rfl) (fun _ _ _ h => h) (Or.inl ⟨by rfl, ?yb31⟩) (by assumption) ?rb31
        case yb31 => (intro w' hSw; (try dsimp only at hSw); go_simp; with_reducible rfl)
        try simp only [List.getElem_toArray, List.getElem_cons_zero, List.getElem_cons_succ, Act.put, List.setIfInBounds_toArray, List.set_cons_zero, List.set_cons_succ]
        refine wpAnyH_take (i := 32) (v := ?vb32) rfl (by kernel_rfl) (by kernel_rfl) (by kernel_rfl) (fun _ _ _ h => h) (Or.inl ⟨by rfl, ?yb32⟩) (by assumption) ?rb32
        case yb32 => (intro w' hSw; (try dsimp only at hSw); go_simp; with_reducible rfl)
        try simp only [List.getElem_toArray, List.getElem_cons_zero, List.getElem_cons_succ, Act.put, List.setIfInBounds_toArray, List.set_cons_zero, List.set_cons_succ]
        refine wpAnyH_ready (rs := [33]) (by kernel_rfl) (by simp) ?_
        refine AllReadyH.cons (o := _) rfl (fun K hK => ?cb33) ?nb33
        case nb33 => exact AllReadyH.nil
        go_simp
        go_at_call 19
        with_reducible refine (HW9.out _ (by first | exact hbW | exact (Below.refl _ wr).drew)).mono ?_
        rintro en wz ⟨rfl, hb5⟩
        have hbW : Below wr.heap.size wr wz := (by first | exact hbW.trans (hb5.mono hbW.size) | exact (Below.refl _ wr).drew.trans hb5)
        have hp0 := (hbW.cell (p := ⟨w7.heap.size, 0, none⟩) zp).trans p0
        have hp1 := (hbW.cell (p := ⟨w7.heap.size, 1, none⟩) zp).trans p1
        have he0 := (hbW.cell (p := ⟨w.heap.size, 0, none⟩) ze).trans e0
        clear hb5
        go_wp2_with fail
        refine hK.out _ _ ?_ (fun hHeld => ?_)
        · exact ⟨hp0, hp1, he0⟩
        clear hK K
        try simp only [List.getElem_toArray, List.getElem_cons_zero, List.getElem_cons_succ, Act.put, List.setIfInBounds_toArray, List.set_cons_zero, List.set_cons_succ]
        refine wpAnyH_take (i := 34) (v := ?vb34) rfl (by kernel_rfl) (by kernel_rfl) (by kernel_rfl) (fun _ _ _ h => h) (Or.inl ⟨by rfl, ?yb34⟩) (by assumption) ?rb34
        case yb34 => (intro w' hSw; (try dsimp only at hSw); go_simp; with_reducible rfl)
        try simp only [List.getElem_toArray, List.getElem_cons_zero, List.getElem_cons_succ, Act.put, List.setIfInBounds_toArray, List.set_cons_zero, List.set_cons_succ]
        refine wpAnyH_take (i := 35) (v := ?vb35) rfl (by kernel_rfl) (by kernel_rfl) (by kernel_rfl) (fun _ _ _ h => h) (Or.inl ⟨by rfl, ?yb35⟩) (by assumption) ?rb35
        case yb35 => (intro w' hSw; (try dsimp only at hSw); go_simp; with_reducible rfl)
        try simp only [List.getElem_toArray, List.getElem_cons_zero, List.getElem_cons_succ, Act.put, List.setIfInBounds_toArray, List.set_cons_zero, List.set_cons_succ]
        refine wpAnyH_done (by kernel_rfl) ?_ _
        refine NoPanic.normal ?_
        all_goals
          go_wp2
          go_ret
          exact boolPost_mk (by first | rfl | simp) (HB0.out.trans ((H.out.2.trans (hbW.mono H.out.2.size)).mono HB0.out.size))
theorem vless_s (A : List Atr) (L : List Rl) (la : Option Addr) (lc : Nat) (dn : List UInt8) (s : ByteArray) (av : Value) (w : World) (he : ErrOk w) (hL : RlAt w (.slice la L.length lc) L) (hA : EaAt w av A) :
    Calls Tryz.prog 8 #[.slice la L.length lc, .string s, .agg #[.string ⟨dn.toArray⟩, av]] w (BoolPost true w) := by
  have h := vless_any A L la lc dn s.data.toList av w he hL hA
  rw [vi_mk] at h
  exact h
end Go.Proofs.YtbihhdkmmlldnaaGreatDoor
