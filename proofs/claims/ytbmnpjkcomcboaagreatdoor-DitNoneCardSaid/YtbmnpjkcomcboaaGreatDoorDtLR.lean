/- The tree behind an entry put, and behind one gone: what lies in memory. An entry put into a tree. An entry put into the place of another one, and one taken away. -/
import Derived.Test.YtbmnpjkcomcboaaGreatDoorDtDI
import Derived.Test.YtbmnpjkcomcboaaGreatDoorDtK
namespace Go.Proofs.YtbmnpjkcomcboaaGreatDoor
set_option linter.unusedSimpArgs false
set_option linter.unusedVariables false
open Go Go.RowKit Go.Proofs.BerK Go.Proofs.MemK Go.Proofs.UtfK Go.Maps Go.WideMaps

theorem add_c1 {L : List Ent} {e : Ent} (h : (parL e.1).2 = false) : addC L e = 34 := by unfold addC; rw [if_pos h]
theorem add_c2 {L : List Ent} {e : Ent} (h : (parL e.1).2 = true) (h2 : hasE L e.1 = true) : addC L e = 68 := by unfold addC; rw [if_neg (by rw [h]; decide), if_pos h2]
theorem add_c3 {L : List Ent} {e : Ent} (h : (parL e.1).2 = true) (h2 : hasE L e.1 = false) (h3 : (parL e.1).1 ≠ [] ∧ hasE L (parL e.1).1 = false) : addC L e = 32 := by unfold addC; rw [if_neg (by rw [h]; decide), if_neg (by rw [h2]; decide), if_pos h3]
theorem add_c4 {L : List Ent} {e : Ent} (h : (parL e.1).2 = true) (h2 : hasE L e.1 = false) (h3 : ¬ ((parL e.1).1 ≠ [] ∧ hasE L (parL e.1).1 = false)) (h4 : chkE e ≠ 0) : addC L e = chkE e := by unfold addC; rw [if_neg (by rw [h]; decide), if_neg (by rw [h2]; decide), if_neg h3, if_pos h4]
theorem add_c5 {L : List Ent} {e : Ent} (h : (parL e.1).2 = true) (h2 : hasE L e.1 = false) (h3 : ¬ ((parL e.1).1 ≠ [] ∧ hasE L (parL e.1).1 = false)) (h4 : chkE e = 0) (h5 : 1024 ≤ L.length) : addC L e = 80 := by unfold addC; rw [if_neg (by rw [h]; decide), if_neg (by rw [h2]; decide), if_neg h3, if_neg (by omega), if_pos h5]
theorem add_c6 {L : List Ent} {e : Ent} (h : (parL e.1).2 = true) (h2 : hasE L e.1 = false) (h3 : ¬ ((parL e.1).1 ≠ [] ∧ hasE L (parL e.1).1 = false)) (h4 : chkE e = 0) (h5 : ¬ 1024 ≤ L.length) : addC L e = 0 := by unfold addC; rw [if_neg (by rw [h]; decide), if_neg (by rw [h2]; decide), if_neg h3, if_neg (by omega), if_neg h5]
theorem addL_no {L : List Ent} {e : Ent} {c : Nat} (h : addC L e = c) (hc : c ≠ 0) : addL L e = L := by unfold addL; rw [if_neg (by omega)]
theorem kid_len (L : List Ent) (p : List UInt8) : (kidN L p).length ≤ L.length := by unfold kidN; rw [List.length_map]; exact List.length_filter_le _ _
theorem tr_nb {w : World} {bb nb : Nat} {F : List UInt8 → Value} {L : List Ent} (h : MvAt w bb (kidF (kidN L) F) nb) : nb ≤ L.length := by
  have := mv_size_le h (L.map fun e => (parL e.1).1) (fun s hs => by
    unfold kidF at hs
    split at hs
    · cases hs
    · rename_i hne
      cases hk : kidN L s with
      | nil => exact absurd hk hne
      | cons c K =>
        obtain ⟨e, he, _, hp⟩ := kid_mem (show c ∈ kidN L s by rw [hk]; simp)
        exact List.mem_map.2 ⟨e, he, by rw [hp]⟩)
  simpa using this
theorem ent_put {w w' : World} {f : List UInt8 → Option Value} {L : List Ent} {e : Ent} {v : Value} (h : EntIs w f L) (hup : L.Pairwise (fun a b => bfN a.1 b.1 = true)) (hn : ∀ x ∈ L, Nm x.1) (he : Nm e.1) (hv : PaAt w' v e.2) (hk : ∀ v A, PaAt w v A → PaAt w' v A) :
    EntIs w' (upF f e.1 (some (.agg #[.string ⟨e.1.toArray⟩, v]))) (putE e L) := by
  intro s
  rw [lk_put hup hn he]
  unfold upF
  by_cases hs : s = e.1
  · rw [if_pos hs, if_pos hs]
    refine ⟨fun h => (by cases h), fun x hx => ?_⟩
    injection hx with hx
    subst hx
    exact ⟨v, rfl, hv⟩
  · rw [if_neg hs, if_neg hs]
    refine ⟨(h s).1, fun x hx => ?_⟩
    obtain ⟨u, h1, h2⟩ := (h s).2 x hx
    exact ⟨u, h1, hk _ _ h2⟩
theorem ent_drop {w w' : World} {f : List UInt8 → Option Value} {L : List Ent} {s : List UInt8} (h : EntIs w f L) (hk : ∀ v A, PaAt w v A → PaAt w' v A) : EntIs w' (upF f s none) (dropE L s) := by
  intro t
  rw [lk_drop]
  unfold upF
  by_cases hs : t = s
  · rw [if_pos hs, if_pos hs]
    exact ⟨fun _ => rfl, fun x hx => (by cases hx)⟩
  · rw [if_neg hs, if_neg hs]
    refine ⟨(h t).1, fun x hx => ?_⟩
    obtain ⟨u, h1, h2⟩ := (h t).2 x hx
    exact ⟨u, h1, hk _ _ h2⟩
theorem kidIs_chg {S : Nat → Prop} {w w' : World} {B : Nat} {F : List UInt8 → Value} {KF : List UInt8 → List Av} (h : KidIs w B F KF) (hc : Chg S w w') (hs : ∀ p k, (F p).ownBlock = some k → ¬ S k) : KidIs w' B F KF := fun p =>
  ⟨(h p).1, ownsRow_chg (h p).2.1 hc (fun k hk => hs p k hk), (h p).2.2⟩
theorem kid_ne_map {w : World} {B k : Nat} {F : List UInt8 → Value} {KF : List UInt8 → List Av} (h : KidIs w B F KF) {p : List UInt8} (hk : (F p).ownBlock = some k) (hm : ∃ es c, w.heap[k]? = some (.map es c)) : False := by
  obtain ⟨es, c, hm⟩ := hm
  rcases (h p).2.1.2 with ⟨e, _⟩ | ⟨g', cap, cur, e, _, hg', _⟩
  · rw [e] at hk; simp [Value.ownBlock] at hk
  · rw [e] at hk
    simp [Value.ownBlock] at hk
    subst hk
    rw [hm] at hg'; cases hg'
theorem isTr_keep {w w' : World} {k : Nat} (h : isTr w k) (hb : w'.heap[k]? = w.heap[k]?) : isTr w' k := by
  rcases h with ⟨es, c, h⟩ | ⟨cs, m, h⟩
  · exact .inl ⟨es, c, hb.trans h⟩
  · exact .inr ⟨cs, m, hb.trans h⟩
theorem pa_keep {S : Nat → Prop} {w w' : World} (hc : Chg S w w') (hs : ∀ k, S k → isTr w k) : ∀ v A, PaAt w v A → PaAt w' v A := fun v A h => off_pa hs h w' hc
theorem add_fin {B g eb bb nb n7 : Nat} {sv na : Value} {S : Nat → Prop} {L : List Ent} {A : List Atr} {dn p l : List UInt8} {F : List UInt8 → Value} {fe : List UInt8 → Option Value} {w w6 w7 w8 : World} {en : Ending}
    (hal : TrAt w B g sv S L) (hS : S = trS eb bb F) (hg : w.heap[g]? = some (.cells #[sv, .map (some eb), .map (some bb)] 69 (0, 0))) (hB : B ≤ eb ∧ B ≤ bb ∧ eb ≠ bb ∧ B ≤ w.heap.size) (h1 : MvAt w eb fe L.length) (h2 : EntIs w fe L) (h3 : MvAt w bb (kidF (kidN L) F) nb) (h4 : KidIs w B F (kidN L)) (hT : TrL L)
    (hpl : parL dn = (p, true)) (hle : leafL dn = (l, true)) (hno : hasE L dn = false) (hb6 : Below w.heap.size w w6) (hpa : PaAt w6 na (clA A)) (hm7 : MvAt w7 eb (upF fe dn (some (.agg #[.string ⟨dn.toArray⟩, na]))) n7) (hn7 : NPut fe dn L.length n7) (ht7 : w6.mapTurned w7 eb)
    (hh : HangPost B bb F (kidN L) p l dn w7 en w8) : TrPost 0 B g sv S (putE (clE (dn, A)) L) w (.returned (.int .i64 (0 : Nat))) w8 := by
  have hti := trAt_isTr hal
  subst hS
  obtain ⟨_, F', nb', i, hi, hlo, hhi, k1, k2, k3, k4⟩ := hh
  have hnm : Nm dn := par_nm (by rw [hpl])
  have hK : upK (kidN L) p ((kidN L p).take i ++ (l, dn) :: (kidN L p).drop i) = kidN (putE (clE (dn, A)) L) := by
    funext q
    unfold upK
    by_cases hq : q = p
    · rw [if_pos hq, hq]
      have hkE : kidE (clE (dn, A)) = (l, dn) := by unfold kidE clE; rw [hle]
      rw [kid_new (e := clE (dn, A)) hT hnm (hasE_no hno) hpl i hi (by rw [hkE]; exact hlo) (by rw [hkE]; exact hhi), hkE]
    · rw [if_neg hq, kid_new_other (e := clE (dn, A)) hT (hasE_no hno) (fun e => hq (by have e : parL dn = (q, true) := e; rw [hpl] at e; exact (Prod.mk.inj e).1.symm))]
  rw [hK] at k1 k2
  have hc7 := chg_turned ht7
  have hcA : Chg (trS eb bb F) w w7 := (Chg.ofBelow hb6).trans hc7 (fun k _ e => .inl e)
  have hcB : Chg (trS eb bb F) w w8 := hcA.trans k3 (fun k _ e => by rcases e with e | e; exact .inr (.inl e); exact .inr (.inr ⟨p, e.symm⟩))
  have z6 := hb6.size
  have hc68 : Chg (trS eb bb F) w6 w8 := (hc7.mono (fun k _ e => .inl e)).trans k3 (fun k _ e => by rcases e with e | e; exact .inr (.inl e); exact .inr (.inr ⟨p, e.symm⟩))
  have hneb : ¬ (eb = bb ∨ some eb = (F p).ownBlock) := by
    rintro (e | e)
    · exact hB.2.2.1 e
    · exact kid_ne_map h4 e.symm (mvAt_map h1)
  have hn0 : (fe dn).isSome = false := by rw [ent_none h2, hno]
  have hn : n7 = (putE (clE (dn, A)) L).length := by
    rw [put_len hT.up, if_neg (by rw [show hasE L (clE (dn, A)).1 = false from hno]; decide)]
    unfold NPut at hn7
    rw [hn7, hn0]; rfl
  have hsz : w.heap.size ≤ w7.heap.size := hcA.size
  refine ⟨rfl, trS eb bb F', ⟨eb, bb, _, F', nb', rfl, obj_chg hg hcB (fun hS => (hti g hS).2.2.2 rfl), ⟨hB.1, hB.2.1, hB.2.2.1, Nat.le_trans hB.2.2.2 hcB.size⟩, hn ▸ mvAt_chg hm7 k3 hneb, ?_, k1, k2⟩, hcB, ?_⟩
  · refine ent_put (w := w) (e := clE (dn, A)) h2 hT.up hT.nm hnm ?_ (pa_keep hcB (fun k hk => (hti k hk).1))
    exact pa_keep hc68 (fun k hk => isTr_keep (hti k hk).1 (hb6.block k (hti k hk).2.2.1)) _ _ hpa
  · intro k hk
    rcases hk with e | e | ⟨q, e⟩
    · exact .inl (.inl e)
    · exact .inl (.inr (.inl e))
    · rcases k4 q k e with h | h
      · exact .inl (.inr (.inr ⟨q, h⟩))
      · exact .inr (Nat.le_trans hsz h)
theorem rep_fin {B g eb bb nb n7 : Nat} {sv na : Value} {S : Nat → Prop} {L : List Ent} {A : List Atr} {dn : List UInt8} {F : List UInt8 → Value} {fe : List UInt8 → Option Value} {w w6 w7 : World}
    (hal : TrAt w B g sv S L) (hS : S = trS eb bb F) (hg : w.heap[g]? = some (.cells #[sv, .map (some eb), .map (some bb)] 69 (0, 0))) (hB : B ≤ eb ∧ B ≤ bb ∧ eb ≠ bb ∧ B ≤ w.heap.size) (h1 : MvAt w eb fe L.length) (h2 : EntIs w fe L) (h3 : MvAt w bb (kidF (kidN L) F) nb) (h4 : KidIs w B F (kidN L)) (hT : TrL L)
    (hno : hasE L dn = true) (hb6 : Below w.heap.size w w6) (hpa : PaAt w6 na (clA A)) (hm7 : MvAt w7 eb (upF fe dn (some (.agg #[.string ⟨dn.toArray⟩, na]))) n7) (hn7 : NPut fe dn L.length n7) (ht7 : w6.mapTurned w7 eb) : TrPost 0 B g sv S (putE (clE (dn, A)) L) w (.returned (.int .i64 (0 : Nat))) w7 := by
  have hti := trAt_isTr hal
  subst hS
  obtain ⟨x, hx, hxe⟩ := hasE_iff.1 hno
  have hnm : Nm dn := hxe ▸ hT.nm x hx
  have hK : kidN (putE (clE (dn, A)) L) = kidN L := by
    funext q
    exact kid_old (e := clE (dn, A)) hT ⟨x, hx, hxe⟩ q
  have hc7 := chg_turned ht7
  have hcA : Chg (trS eb bb F) w w7 := (Chg.ofBelow hb6).trans hc7 (fun k _ e => .inl e)
  have hc67 : Chg (trS eb bb F) w6 w7 := hc7.mono (fun k _ e => .inl e)
  have hce : Chg (fun k => k = eb) w w7 := (Chg.ofBelow hb6).trans hc7 (fun k _ e => e)
  have hneb : ¬ bb = eb := fun e => hB.2.2.1 e.symm
  have hn0 : (fe dn).isSome = true := by rw [ent_none h2, hno]
  have hn : n7 = (putE (clE (dn, A)) L).length := by
    rw [put_len hT.up, if_pos (show hasE L (clE (dn, A)).1 = true from hno)]
    unfold NPut at hn7
    rw [hn7, hn0]; rfl
  refine ⟨rfl, trS eb bb F, ⟨eb, bb, _, F, nb, rfl, obj_chg hg hcA (fun hS => (hti g hS).2.2.2 rfl), ⟨hB.1, hB.2.1, hB.2.2.1, Nat.le_trans hB.2.2.2 hcA.size⟩, hn ▸ hm7, ?_, hK ▸ mvAt_chg h3 hce hneb, hK ▸ kidIs_chg h4 hce (fun q k hk e => kid_ne_map h4 hk (by have e : k = eb := e; rw [e]; exact mvAt_map h1))⟩, hcA, fun k hk => .inl hk⟩
  refine ent_put (w := w) (e := clE (dn, A)) h2 hT.up hT.nm hnm ?_ (pa_keep hcA (fun k hk => (hti k hk).1))
  exact pa_keep hc67 (fun k hk => isTr_keep (hti k hk).1 (hb6.block k (hti k hk).2.2.1)) _ _ hpa
theorem del_fin {B g eb bb nb n7 : Nat} {sv : Value} {S : Nat → Prop} {L : List Ent} {dn p : List UInt8} {F : List UInt8 → Value} {fe : List UInt8 → Option Value} {w w6 w7 w8 : World} {en : Ending}
    (hal : TrAt w B g sv S L) (hS : S = trS eb bb F) (hg : w.heap[g]? = some (.cells #[sv, .map (some eb), .map (some bb)] 69 (0, 0))) (hB : B ≤ eb ∧ B ≤ bb ∧ eb ≠ bb ∧ B ≤ w.heap.size) (h1 : MvAt w eb fe L.length) (h2 : EntIs w fe L) (h3 : MvAt w bb (kidF (kidN L) F) nb) (h4 : KidIs w B F (kidN L)) (hT : TrL L)
    (hpl : parL dn = (p, true)) (hno : hasE L dn = true) (hb6 : Below w.heap.size w w6) (hm7 : MvAt w7 eb (upF fe dn none) n7) (hn7 : NDel fe dn L.length n7) (ht7 : w6.mapTurned w7 eb)
    (hh : UnhPost B bb F (kidN L) p dn w7 en w8) : TrPost 0 B g sv S (dropE L dn) w (.returned (.int .i64 (0 : Nat))) w8 := by
  have hti := trAt_isTr hal
  subst hS
  obtain ⟨_, F', nb', k1, k2, k3, k4⟩ := hh
  have hK : upK (kidN L) p ((kidN L p).filter fun c => !(c.2 == dn)) = kidN (dropE L dn) := by
    funext q
    unfold upK
    by_cases hq : q = p
    · rw [if_pos hq, hq, kid_drop]
      congr 1
      funext c
      by_cases h : c.2 = dn
      · simp [h]
      · simp [h]
    · rw [if_neg hq]
      exact (kid_drop_other L (fun e => hq (by rw [hpl] at e; exact (Prod.mk.inj e).1.symm))).symm
  rw [hK] at k1 k2
  have hc7 := chg_turned ht7
  have hcA : Chg (trS eb bb F) w w7 := (Chg.ofBelow hb6).trans hc7 (fun k _ e => .inl e)
  have hcB : Chg (trS eb bb F) w w8 := hcA.trans k3 (fun k _ e => by rcases e with e | e; exact .inr (.inl e); exact .inr (.inr ⟨p, e.symm⟩))
  have hneb : ¬ (eb = bb ∨ some eb = (F p).ownBlock) := by
    rintro (e | e)
    · exact hB.2.2.1 e
    · exact kid_ne_map h4 e.symm (mvAt_map h1)
  have hn0 : (fe dn).isSome = true := by rw [ent_none h2, hno]
  have hn : n7 = (dropE L dn).length := by
    have hdl := drop_len hT.up hno
    unfold NDel at hn7
    rw [hn0, if_pos rfl] at hn7
    omega
  have hsz : w.heap.size ≤ w7.heap.size := hcA.size
  refine ⟨rfl, trS eb bb F', ⟨eb, bb, _, F', nb', rfl, obj_chg hg hcB (fun hS => (hti g hS).2.2.2 rfl), ⟨hB.1, hB.2.1, hB.2.2.1, Nat.le_trans hB.2.2.2 hcB.size⟩, hn ▸ mvAt_chg hm7 k3 hneb, ent_drop h2 (pa_keep hcB (fun k hk => (hti k hk).1)), k1, k2⟩, hcB, ?_⟩
  intro k hk
  rcases hk with e | e | ⟨q, e⟩
  · exact .inl (.inl e)
  · exact .inl (.inr (.inl e))
  · rcases k4 q k e with h | h
    · exact .inl (.inr (.inr ⟨q, h⟩))
    · exact .inr (Nat.le_trans hsz h)
end Go.Proofs.YtbmnpjkcomcboaaGreatDoor
namespace Go.Proofs.YtbmnpjkcomcboaaGreatDoor
set_option linter.unusedSimpArgs false
set_option linter.unusedVariables false
open Go Go.RowKit Go.Proofs.BerK Go.Proofs.MemK Go.Proofs.UtfK Go.Maps Go.WideMaps

set_option maxHeartbeats 12800000 in
set_option maxRecDepth 100000 in
theorem dtadd_any (B g sb : Nat) (S : Nat → Prop) (L : List Ent) (A : List Atr) (dn : List UInt8) (av : Value) (w : World) (h : TrAt w B g (.pointer (some ⟨sb, 0, none⟩)) S L) (hT : TrL L) (hl : L.length ≤ 1024) (hsc : Off S w (fun w => ScAt w sb plT plC)) (he : Off S w ErrOk) (hA : EaAt w av A) (hf : FewZ A) (hdn : dn.length ≤ 140737488355328) :
    Calls Tryz.prog 19 #[.pointer (some ⟨g, 0, none⟩), .agg #[.string ⟨dn.toArray⟩, av]] w (TrPost (addC L (dn, A)) B g (.pointer (some ⟨sb, 0, none⟩)) S (addL L (dn, A)) w) := by
  have hal := id h
  obtain ⟨eb, bb, fe, F, nb, hS, hg, ⟨hB1, hB2, hne, hB3⟩, h1, h2, h3, h4⟩ := h
  have zg := obj_lt hg
  have zeb := mvAt_lt h1
  have hge : ¬ g = eb := fun e => by obtain ⟨es, c, hm⟩ := mvAt_map h1; rw [e, hm] at hg; cases hg
  have hgb : ¬ g = bb := fun e => by obtain ⟨es, c, hm⟩ := mvAt_map h3; rw [e, hm] at hg; cases hg
  obtain ⟨W0, hW0⟩ : ∃ W, w.alloc (.cells #[.string ⟨dn.toArray⟩, av] 39) = W := ⟨_, rfl⟩
  have hb0 : Below w.heap.size w W0 := by rw [← hW0]; exact (Below.refl _ w).alloc (Nat.le_refl _) _
  have hx0 : W0.heap[w.heap.size]? = some (.cells #[.string ⟨dn.toArray⟩, av] 39 (0, 0)) := by rw [← hW0]; exact heap_alloc_new w _
  have hEr : ∀ w', Below w.heap.size w w' → ErrOk w' := fun w' hb => errOk_below he.now hb
  have HPa := Lib.hid (parent_any dn W0 (hEr W0 hb0))
  have HHa := Lib.hid (fun w' (hb : Below w.heap.size w w') s (hs : s.length ≤ 140737488355328) => dthas_any B g _ S L s w' (trAt_below hal hb) hs)
  have HCk := Lib.hid (fun w' (hb : Below w.heap.size w w') r D (hn : nrD dn = some (r :: D)) => dtchk_any g sb _ _ A dn r D av w' (obj_below hg hb zg) (scAt_below hsc.now hb) (eaAt_below hA hb) hf hn (hEr w' hb))
  have HCl := Lib.hid (fun w' (hb : Below w.heap.size w w') => eclean_any A dn av w' (eaAt_below hA hb) hf.1)
  have HSame := Lib.hid (fun (c : Nat) (hc : addC L (dn, A) = c) (h0 : c ≠ 0) w' (hb : Below w.heap.size w w') => show TrPost (addC L (dn, A)) B g (.pointer (some ⟨sb, 0, none⟩)) S (addL L (dn, A)) w (.returned (.int .i64 (c : Nat))) w' from by rw [addL_no hc h0]; exact trPost_same hc hal hb)
  obtain ⟨a, c, rfl⟩ := eaAt_slice hA
  obtain ⟨n, hnn⟩ : ∃ n, A.length = n := ⟨_, rfl⟩
  rw [hnn] at hW0 hx0 HCk HCl ⊢
  obtain ⟨e0, e1⟩ := obj2s hx0
  have zx := obj_lt hx0
  obtain ⟨c0, c1, c2⟩ := obj3 (obj_below hg hb0 zg)
  have zg0 := Nat.lt_of_lt_of_le zg hb0.size
  have HX := Lib.hid (And.intro hb0 hx0)
  have HW0 := Lib.hid hW0
  have HG := Lib.hid hg
  rw [← hW0] at c0 e0 e1
  have HTr := Lib.hid (And.intro h1 (And.intro hge (And.intro hgb zeb)))
  have HAll := Lib.hid (And.intro hT (And.intro hS (And.intro h2 (And.intro h3 (And.intro h4 (And.intro hB1 (And.intro hB2 (And.intro hne hB3))))))))
  have HOf := Lib.hid (And.intro hsc (And.intro he hal))
  obtain ⟨G, hGG⟩ : ∃ G : Ending → World → Prop, TrPost (addC L (dn, A)) B g (.pointer (some ⟨sb, 0, none⟩)) S (addL L (dn, A)) w = G := ⟨_, rfl⟩
  have HGG := Lib.hid hGG
  rw [hGG] at HSame ⊢
  obtain ⟨⟨p, ok⟩, hpo⟩ : ∃ x, parL dn = x := ⟨_, rfl⟩
  rw [hpo] at HPa
  have HPo := Lib.hid hpo
  clear hsc he hA hf hnn hb0 hx0 hW0 hg hT hS h1 h2 h3 h4 hB1 hB2 hne hB3 hal hEr hGG hpo hge hgb
  go_enter Tryz.func19, Tryz.ntmps19
  go_wp2_with fail
  rw [HW0.out]
  refine HPa.out.mono ?_
  rintro en w2 ⟨rfl, hb2⟩
  have H2 := Lib.hid (And.intro hb2 (HX.out.1.trans (hb2.mono HX.out.1.size)))
  obtain ⟨e0, e1⟩ := obj2s (obj_below HX.out.2 hb2 zx)
  clear hb2 c0 c1 c2
  cases ok with
  | false =>
    go_wp2
    exact HSame.out 34 (add_c1 (by rw [HPo.out])) (by decide) _ H2.out.2
  | true =>
    have HH := Lib.hid (HHa.out w2 H2.out.2 dn hdn)
    obtain ⟨q, hq⟩ : ∃ q, hasE L dn = q := ⟨_, rfl⟩
    rw [hq] at HH
    have HQ := Lib.hid hq
    clear hq
    go_wp2_with fail
    refine HH.out.mono ?_
    rintro en w3 ⟨rfl, hb3⟩
    have H3 := Lib.hid (And.intro (H2.out.1.trans (hb3.mono H2.out.1.size)) (H2.out.2.trans (hb3.mono H2.out.2.size)))
    obtain ⟨e0, e1⟩ := obj2s (obj_below HX.out.2 H3.out.1 zx)
    clear hb3
    cases q with
    | true =>
      go_wp2
      exact HSame.out 68 (add_c2 (by rw [HPo.out]) HQ.out) (by decide) _ H3.out.2
    | false =>
      obtain ⟨r, D, hrD⟩ := par_nm (show (parL dn).2 = true by rw [HPo.out])
      obtain ⟨p2, l, hp2, hle, _, D2, hD2⟩ := nm_par ⟨r, D, hrD⟩
      have hpp : p2 = p := by rw [HPo.out] at hp2; exact (Prod.mk.inj hp2).1.symm
      rw [hpp] at hD2
      have hp4 : p.length ≤ 4096 := by
        have := nr_some hD2
        rw [this.1]; exact this.2.2.2
      have HHg := Lib.hid (fun w7 (hc : Chg (fun k => k = eb) w w7) => by
        obtain ⟨a1, a2, a3, a4, a5, a6, a7, a8, a9⟩ := HAll.out
        exact dthang_any B g bb nb F (kidN L) dn p l w7 ⟨_, eb, obj_chg HG.out hc HTr.out.2.1⟩ (mvAt_chg a4 hc (fun e => a8 e.symm)) (kidIs_chg a5 hc (fun q k hk e => kid_ne_map a5 hk (by have e : k = eb := e; rw [e]; exact mvAt_map HTr.out.1))) (Nat.le_trans a9 hc.size) (by have := tr_nb a4; omega) hle (kid_up a1.nm a1.up p) (by have := kid_len L p; omega) (by omega) (HOf.out.2.1 w7 (hc.mono (fun k _ e => by rw [a2]; exact .inl e))))
      have HHp := Lib.hid (HHa.out w3 H3.out.2 p (by omega))
      clear hp2 hpp hD2 hp4 HHa HH
      by_cases hp0 : p = []
      · subst hp0
        clear HHp
        have HC := Lib.hid (HCk.out w3 H3.out.2 r D hrD)
        obtain ⟨N, hN⟩ : ∃ N, chkE (dn, A) = N := ⟨_, rfl⟩
        rw [hN] at HC
        have HN := Lib.hid hN
        clear hN
        go_wp2_with fail
        refine HC.out.mono ?_
        rintro en w5 ⟨rfl, hb5⟩
        have H5 := Lib.hid (And.intro (H3.out.1.trans (hb5.mono H3.out.1.size)) (H3.out.2.trans (hb5.mono H3.out.2.size)))
        obtain ⟨d0, d1⟩ := obj2s (obj_below HX.out.2 H5.out.1 zx)
        obtain ⟨c0, c1, c2⟩ := obj3 (obj_below HG.out H5.out.2 zg)
        have zx5 := Nat.lt_of_lt_of_le zx H5.out.1.size
        have zg5 := Nat.lt_of_lt_of_le zg H5.out.2.size
        clear hb5 e0 e1 HC c0 c2
        by_cases hN0 : N = 0
        · subst hN0
          have hrun := mv_len (mvAt_block HTr.out.1 (H5.out.2.block eb HTr.out.2.2.2)) Tryz.underlying66 3
          obtain ⟨m, hm⟩ : ∃ m, L.length = m := ⟨_, rfl⟩
          rw [hm] at hrun
          have HM := Lib.hid hm
          clear hm
          by_cases hm4 : 1024 ≤ m
          · have q1 : (1024 : Int) ≤ (m : Int) := by omega
            go_wp2
            exact HSame.out 80 (add_c5 (by rw [HPo.out]) HQ.out (by rw [HPo.out]; exact fun h => h.1 rfl) HN.out (by have := HM.out; omega)) (by decide) _ H5.out.2
          · have q1 : (m : Int) < 1024 := by omega
            have q2 : ¬ (1024 : Int) ≤ (m : Int) := by omega
            go_wp2
            refine wp_region_noPanic ?_
            refine wp_region_held_drew (S := fun w' => w'.cell? ⟨g, 1, none⟩ = some (.map (some eb)) ∧ w'.cell? ⟨w.heap.size, 0, none⟩ = some (.string ⟨dn.toArray⟩) ∧ w'.cell? ⟨w.heap.size, 1, none⟩ = some (.slice a n c)) (by kernel_rfl) ?_ (fun hHeld => ?_)
            · exact ⟨c1, d0, d1⟩
            refine wpAnyH_take (i := 0) (v := ?vqa0) rfl (by kernel_rfl) (by kernel_rfl) (by kernel_rfl) (fun _ _ _ h => h) (Or.inl ⟨by rfl, ?yqa0⟩) (by assumption) ?rqa0
            case yqa0 => (intro w' hSw; (try dsimp only at hSw); go_simp; with_reducible rfl)
            try simp only [List.getElem_toArray, List.getElem_cons_zero, List.getElem_cons_succ, Act.put, List.setIfInBounds_toArray, List.set_cons_zero, List.set_cons_succ]
            refine wpAnyH_take (i := 1) (v := ?vqa1) rfl (by kernel_rfl) (by kernel_rfl) (by kernel_rfl) (fun _ _ _ h => h) (Or.inl ⟨by rfl, ?yqa1⟩) (by assumption) ?rqa1
            case yqa1 => (intro w' hSw; (try dsimp only at hSw); go_simp; with_reducible rfl)
            try simp only [List.getElem_toArray, List.getElem_cons_zero, List.getElem_cons_succ, Act.put, List.setIfInBounds_toArray, List.set_cons_zero, List.set_cons_succ]
            refine wpAnyH_take (i := 2) (v := ?vqa2) rfl (by kernel_rfl) (by kernel_rfl) (by kernel_rfl) (fun _ _ _ h => h) (Or.inl ⟨by rfl, ?yqa2⟩) (by assumption) ?rqa2
            case yqa2 => (intro w' hSw; (try dsimp only at hSw); go_simp; with_reducible rfl)
            try simp only [List.getElem_toArray, List.getElem_cons_zero, List.getElem_cons_succ, Act.put, List.setIfInBounds_toArray, List.set_cons_zero, List.set_cons_succ]
            refine wpAnyH_take (i := 3) (v := ?vqa3) rfl (by kernel_rfl) (by kernel_rfl) (by kernel_rfl) (fun _ _ _ h => h) (Or.inl ⟨by rfl, ?yqa3⟩) (by assumption) ?rqa3
            case yqa3 => (intro w' hSw; (try dsimp only at hSw); go_simp; with_reducible rfl)
            try simp only [List.getElem_toArray, List.getElem_cons_zero, List.getElem_cons_succ, Act.put, List.setIfInBounds_toArray, List.set_cons_zero, List.set_cons_succ]
            refine wpAnyH_take (i := 4) (v := ?vqa4) rfl (by kernel_rfl) (by kernel_rfl) (by kernel_rfl) (fun _ _ _ h => h) (Or.inl ⟨by rfl, ?yqa4⟩) (by assumption) ?rqa4
            case yqa4 => (intro w' hSw; (try dsimp only at hSw); go_simp; with_reducible rfl)
            try simp only [List.getElem_toArray, List.getElem_cons_zero, List.getElem_cons_succ, Act.put, List.setIfInBounds_toArray, List.set_cons_zero, List.set_cons_succ]
            refine wpAnyH_take (i := 5) (v := ?vqa5) rfl (by kernel_rfl) (by kernel_rfl) (by kernel_rfl) (fun _ _ _ h => h) (Or.inl ⟨by rfl, ?yqa5⟩) (by assumption) ?rqa5
            case yqa5 => (intro w' hSw; (try dsimp only at hSw); go_simp; with_reducible rfl)
            try simp only [List.getElem_toArray, List.getElem_cons_zero, List.getElem_cons_succ, Act.put, List.setIfInBounds_toArray, List.set_cons_zero, List.set_cons_succ]
            refine wpAnyH_take (i := 6) (v := ?vqa6) rfl (by kernel_rfl) (by kernel_rfl) (by kernel_rfl) (fun _ _ _ h => h) (Or.inl ⟨by rfl, ?yqa6⟩) (by assumption) ?rqa6
            case yqa6 => (intro w' hSw; (try dsimp only at hSw); go_simp; with_reducible rfl)
            try simp only [List.getElem_toArray, List.getElem_cons_zero, List.getElem_cons_succ, Act.put, List.setIfInBounds_toArray, List.set_cons_zero, List.set_cons_succ]
            refine wpAnyH_ready (rs := [7]) (by kernel_rfl) (by simp) ?_
            refine AllReadyH.cons (o := _) rfl (fun KR hKR => ?cqa7) ?nqa7
            case nqa7 => exact AllReadyH.nil
            go_simp
            go_at_call 44
            with_reducible refine (HCl.out _ (by first | exact H5.out.2.drew | exact H5.out.2)).mono ?_
            rintro en w6 ⟨cv, cq, rfl, hok, hcr, hb6⟩
            have hb6 : Below w5.heap.size w5 w6 := (by first | exact (Below.refl _ w5).drew.trans hb6 | exact hb6)
            have hbw : Below w.heap.size w w6 := H5.out.2.trans (hb6.mono H5.out.2.size)
            have i1 := (hb6.cell (p := ⟨g, 1, none⟩) zg5).trans c1
            have j0 := (hb6.cell (p := ⟨w.heap.size, 0, none⟩) zx5).trans d0
            have j1 := (hb6.cell (p := ⟨w.heap.size, 1, none⟩) zx5).trans d1
            have hpa : PaAt w6 cv (clA A) := ⟨cq, _, hok, hcr⟩
            obtain ⟨na, nc, rfl⟩ := ownsRow_slice hcr
            obtain ⟨N1, hN1⟩ : ∃ N1, (clA A).length = N1 := ⟨_, rfl⟩
            rw [hN1] at hpa ⊢
            have hm6 := mvAt_block HTr.out.1 (hbw.block eb HTr.out.2.2.2)
            have H6 := Lib.hid (And.intro hpa (And.intro hbw (And.intro hm6 hb6)))
            clear hok hcr hpa hb6 hbw hm6 hN1
            go_wp2_with fail
            refine hKR.out _ _ ?_ (fun hHeld => ?_)
            · exact ⟨i1, j0, j1⟩
            clear hKR KR
            try simp only [List.getElem_toArray, List.getElem_cons_zero, List.getElem_cons_succ, Act.put, List.setIfInBounds_toArray, List.set_cons_zero, List.set_cons_succ]
            refine wpAnyH_ready (rs := [8]) (by kernel_rfl) (by simp) ?_
            refine AllReadyH.cons (o := _) rfl (fun KR hKR => ?cqa8) ?nqa8
            case nqa8 => exact AllReadyH.nil
            refine step_mvPut rfl (.tmp 52) (.tmp 54) (.tmp 56) 66 39 rfl Tryz.underlying66 eb L.length fe rfl H6.out.2.2.1 (by unfold maxLen; omega) dn (.agg #[.string ⟨dn.toArray⟩, .slice na N1 nc]) rfl rfl hdn ?_
            intro w7 n7 hm7 hn7 ht7
            have hne0 : ¬ w.heap.size = eb := by have := HTr.out.2.2.2; omega
            have hc7 := chg_turned ht7
            have k1 : w7.cell? ⟨g, 1, none⟩ = some (.map (some eb)) := by have := hc7.block g (Nat.lt_of_lt_of_le zg5 H6.out.2.2.2.size) HTr.out.2.1; unfold World.cell? at i1 ⊢; simp only [this]; exact i1
            have k0 : ∀ o v, w6.cell? ⟨w.heap.size, o, none⟩ = some v → w7.cell? ⟨w.heap.size, o, none⟩ = some v := fun o v hq => by have := hc7.block w.heap.size (Nat.lt_of_lt_of_le zx5 H6.out.2.2.2.size) hne0; unfold World.cell? at hq ⊢; simp only [this]; exact hq
            have l0 := k0 0 _ j0
            have l1 := k0 1 _ j1
            have H7 := Lib.hid (And.intro hm7 (And.intro hn7 ht7))
            clear hm7 hn7 ht7 hc7 k0
            refine hKR.out _ _ ?_ (fun hHeld => ?_)
            · exact ⟨k1, l0, l1⟩
            clear hKR KR
            try simp only [List.getElem_toArray, List.getElem_cons_zero, List.getElem_cons_succ, Act.put, List.setIfInBounds_toArray, List.set_cons_zero, List.set_cons_succ]
            refine wpAnyH_done (by kernel_rfl) ?_ _
            refine NoPanic.normal ?_
            have hcw : Chg (fun k => k = eb) w w7 := (Chg.ofBelow H6.out.2.1).trans (chg_turned H7.out.2.2) (fun k _ e => e)
            have HH7 := Lib.hid (HHg.out w7 hcw)
            have HC7 := Lib.hid hcw
            clear hcw k1
            go_wp2_with fail
            refine HH7.out.mono ?_
            intro en w8 hh
            have he8 := hh.1
            subst he8
            have HH8 := Lib.hid hh
            clear hh l0 l1
            go_wp2
            have hc0 : addC L (dn, A) = 0 := add_c6 (by rw [HPo.out]) HQ.out (by rw [HPo.out]; exact fun h => h.1 rfl) HN.out (by have := HM.out; omega)
            have haL : addL L (dn, A) = putE (clE (dn, A)) L := by unfold addL; rw [if_pos hc0]
            rw [← HGG.out, hc0, haL]
            obtain ⟨a1, a2, a3, a4, a5, a6, a7, a8, a9⟩ := HAll.out
            exact add_fin HOf.out.2.2 a2 HG.out ⟨a6, a7, a8, a9⟩ HTr.out.1 a3 a4 a5 a1 HPo.out hle HQ.out H6.out.2.1 H6.out.1 H7.out.1 H7.out.2.1 H7.out.2.2 HH8.out
        · have hNi : ((N : Int) != 0) = true := by simp; omega
          have hN1 := Lib.hid hN0
          clear hN0
          go_wp2
          exact HSame.out N ((add_c4 (by rw [HPo.out]) HQ.out (by rw [HPo.out]; exact fun h => h.1 rfl) (by rw [HN.out]; exact hN1.out)).trans HN.out) hN1.out _ H5.out.2
      · have HP0 := Lib.hid hp0
        obtain ⟨q2, hq2⟩ : ∃ q2, hasE L p = q2 := ⟨_, rfl⟩
        rw [hq2] at HHp
        have HQ2 := Lib.hid hq2
        clear hq2
        have hpe : p.isEmpty = false := by simpa using hp0
        go_wp2_with fail
        refine HHp.out.mono ?_
        rintro en w4 ⟨rfl, hb4⟩
        have H4 := Lib.hid (And.intro (H3.out.1.trans (hb4.mono H3.out.1.size)) (H3.out.2.trans (hb4.mono H3.out.2.size)))
        obtain ⟨e0, e1⟩ := obj2s (obj_below HX.out.2 H4.out.1 zx)
        clear hb4 HHp
        cases q2 with
        | false =>
          go_wp2
          exact HSame.out 32 (add_c3 (by rw [HPo.out]) HQ.out ⟨by rw [HPo.out]; exact HP0.out, by rw [HPo.out]; exact HQ2.out⟩) (by decide) _ H4.out.2
        | true =>
          have HC := Lib.hid (HCk.out w4 H4.out.2 r D hrD)
          obtain ⟨N, hN⟩ : ∃ N, chkE (dn, A) = N := ⟨_, rfl⟩
          rw [hN] at HC
          have HN := Lib.hid hN
          clear hN
          go_wp2_with fail
          refine HC.out.mono ?_
          rintro en w5 ⟨rfl, hb5⟩
          have H5 := Lib.hid (And.intro (H4.out.1.trans (hb5.mono H4.out.1.size)) (H4.out.2.trans (hb5.mono H4.out.2.size)))
          obtain ⟨d0, d1⟩ := obj2s (obj_below HX.out.2 H5.out.1 zx)
          obtain ⟨c0, c1, c2⟩ := obj3 (obj_below HG.out H5.out.2 zg)
          have zx5 := Nat.lt_of_lt_of_le zx H5.out.1.size
          have zg5 := Nat.lt_of_lt_of_le zg H5.out.2.size
          clear hb5 e0 e1 HC c0 c2
          by_cases hN0 : N = 0
          · subst hN0
            have hrun := mv_len (mvAt_block HTr.out.1 (H5.out.2.block eb HTr.out.2.2.2)) Tryz.underlying66 3
            obtain ⟨m, hm⟩ : ∃ m, L.length = m := ⟨_, rfl⟩
            rw [hm] at hrun
            have HM := Lib.hid hm
            clear hm
            by_cases hm4 : 1024 ≤ m
            · have q1 : (1024 : Int) ≤ (m : Int) := by omega
              go_wp2
              exact HSame.out 80 (add_c5 (by rw [HPo.out]) HQ.out (by rw [HPo.out]; exact fun h => (by have := h.2; rw [HQ2.out] at this; cases this)) HN.out (by have := HM.out; omega)) (by decide) _ H5.out.2
            · have q1 : (m : Int) < 1024 := by omega
              have q2 : ¬ (1024 : Int) ≤ (m : Int) := by omega
              go_wp2
              refine wp_region_noPanic ?_
              refine wp_region_held_drew (S := fun w' => w'.cell? ⟨g, 1, none⟩ = some (.map (some eb)) ∧ w'.cell? ⟨w.heap.size, 0, none⟩ = some (.string ⟨dn.toArray⟩) ∧ w'.cell? ⟨w.heap.size, 1, none⟩ = some (.slice a n c)) (by kernel_rfl) ?_ (fun hHeld => ?_)
              · exact ⟨c1, d0, d1⟩
              refine wpAnyH_take (i := 0) (v := ?vqb0) rfl (by kernel_rfl) (by kernel_rfl) (by kernel_rfl) (fun _ _ _ h => h) (Or.inl ⟨by rfl, ?yqb0⟩) (by assumption) ?rqb0
              case yqb0 => (intro w' hSw; (try dsimp only at hSw); go_simp; with_reducible rfl)
              try simp only [List.getElem_toArray, List.getElem_cons_zero, List.getElem_cons_succ, Act.put, List.setIfInBounds_toArray, List.set_cons_zero, List.set_cons_succ]
              refine wpAnyH_take (i := 1) (v := ?vqb1) rfl (by kernel_rfl) (by kernel_rfl) (by kernel_rfl) (fun _ _ _ h => h) (Or.inl ⟨by rfl, ?yqb1⟩) (by assumption) ?rqb1
              case yqb1 => (intro w' hSw; (try dsimp only at hSw); go_simp; with_reducible rfl)
              try simp only [List.getElem_toArray, List.getElem_cons_zero, List.getElem_cons_succ, Act.put, List.setIfInBounds_toArray, List.set_cons_zero, List.set_cons_succ]
              refine wpAnyH_take (i := 2) (v := ?vqb2) rfl (by kernel_rfl) (by kernel_rfl) (by kernel_rfl) (fun _ _ _ h => h) (Or.inl ⟨by rfl, ?yqb2⟩) (by assumption) ?rqb2
              case yqb2 => (intro w' hSw; (try dsimp only at hSw); go_simp; with_reducible rfl)
              try simp only [List.getElem_toArray, List.getElem_cons_zero, List.getElem_cons_succ, Act.put, List.setIfInBounds_toArray, List.set_cons_zero, List.set_cons_succ]
              refine wpAnyH_take (i := 3) (v := ?vqb3) rfl (by kernel_rfl) (by kernel_rfl) (by kernel_rfl) (fun _ _ _ h => h) (Or.inl ⟨by rfl, ?yqb3⟩) (by assumption) ?rqb3
              case yqb3 => (intro w' hSw; (try dsimp only at hSw); go_simp; with_reducible rfl)
              try simp only [List.getElem_toArray, List.getElem_cons_zero, List.getElem_cons_succ, Act.put, List.setIfInBounds_toArray, List.set_cons_zero, List.set_cons_succ]
              refine wpAnyH_take (i := 4) (v := ?vqb4) rfl (by kernel_rfl) (by kernel_rfl) (by kernel_rfl) (fun _ _ _ h => h) (Or.inl ⟨by rfl, ?yqb4⟩) (by assumption) ?rqb4
              case yqb4 => (intro w' hSw; (try dsimp only at hSw); go_simp; with_reducible rfl)
              try simp only [List.getElem_toArray, List.getElem_cons_zero, List.getElem_cons_succ, Act.put, List.setIfInBounds_toArray, List.set_cons_zero, List.set_cons_succ]
              refine wpAnyH_take (i := 5) (v := ?vqb5) rfl (by kernel_rfl) (by kernel_rfl) (by kernel_rfl) (fun _ _ _ h => h) (Or.inl ⟨by rfl, ?yqb5⟩) (by assumption) ?rqb5
              case yqb5 => (intro w' hSw; (try dsimp only at hSw); go_simp; with_reducible rfl)
              try simp only [List.getElem_toArray, List.getElem_cons_zero, List.getElem_cons_succ, Act.put, List.setIfInBounds_toArray, List.set_cons_zero, List.set_cons_succ]
              refine wpAnyH_take (i := 6) (v := ?vqb6) rfl (by kernel_rfl) (by kernel_rfl) (by kernel_rfl) (fun _ _ _ h => h) (Or.inl ⟨by rfl, ?yqb6⟩) (by assumption) ?rqb6
              case yqb6 => (intro w' hSw; (try dsimp only at hSw); go_simp; with_reducible rfl)
              try simp only [List.getElem_toArray, List.getElem_cons_zero, List.getElem_cons_succ, Act.put, List.setIfInBounds_toArray, List.set_cons_zero, List.set_cons_succ]
              refine wpAnyH_ready (rs := [7]) (by kernel_rfl) (by simp) ?_
              refine AllReadyH.cons (o := _) rfl (fun KR hKR => ?cqb7) ?nqb7
              case nqb7 => exact AllReadyH.nil
              go_simp
              go_at_call 44
              with_reducible refine (HCl.out _ (by first | exact H5.out.2.drew | exact H5.out.2)).mono ?_
              rintro en w6 ⟨cv, cq, rfl, hok, hcr, hb6⟩
              have hb6 : Below w5.heap.size w5 w6 := (by first | exact (Below.refl _ w5).drew.trans hb6 | exact hb6)
              have hbw : Below w.heap.size w w6 := H5.out.2.trans (hb6.mono H5.out.2.size)
              have i1 := (hb6.cell (p := ⟨g, 1, none⟩) zg5).trans c1
              have j0 := (hb6.cell (p := ⟨w.heap.size, 0, none⟩) zx5).trans d0
              have j1 := (hb6.cell (p := ⟨w.heap.size, 1, none⟩) zx5).trans d1
              have hpa : PaAt w6 cv (clA A) := ⟨cq, _, hok, hcr⟩
              obtain ⟨na, nc, rfl⟩ := ownsRow_slice hcr
              obtain ⟨N1, hN1⟩ : ∃ N1, (clA A).length = N1 := ⟨_, rfl⟩
              rw [hN1] at hpa ⊢
              have hm6 := mvAt_block HTr.out.1 (hbw.block eb HTr.out.2.2.2)
              have H6 := Lib.hid (And.intro hpa (And.intro hbw (And.intro hm6 hb6)))
              clear hok hcr hpa hb6 hbw hm6 hN1
              go_wp2_with fail
              refine hKR.out _ _ ?_ (fun hHeld => ?_)
              · exact ⟨i1, j0, j1⟩
              clear hKR KR
              try simp only [List.getElem_toArray, List.getElem_cons_zero, List.getElem_cons_succ, Act.put, List.setIfInBounds_toArray, List.set_cons_zero, List.set_cons_succ]
              refine wpAnyH_ready (rs := [8]) (by kernel_rfl) (by simp) ?_
              refine AllReadyH.cons (o := _) rfl (fun KR hKR => ?cqb8) ?nqb8
              case nqb8 => exact AllReadyH.nil
              refine step_mvPut rfl (.tmp 52) (.tmp 54) (.tmp 56) 66 39 rfl Tryz.underlying66 eb L.length fe rfl H6.out.2.2.1 (by unfold maxLen; omega) dn (.agg #[.string ⟨dn.toArray⟩, .slice na N1 nc]) rfl rfl hdn ?_
              intro w7 n7 hm7 hn7 ht7
              have hne0 : ¬ w.heap.size = eb := by have := HTr.out.2.2.2; omega
              have hc7 := chg_turned ht7
              have k1 : w7.cell? ⟨g, 1, none⟩ = some (.map (some eb)) := by have := hc7.block g (Nat.lt_of_lt_of_le zg5 H6.out.2.2.2.size) HTr.out.2.1; unfold World.cell? at i1 ⊢; simp only [this]; exact i1
              have k0 : ∀ o v, w6.cell? ⟨w.heap.size, o, none⟩ = some v → w7.cell? ⟨w.heap.size, o, none⟩ = some v := fun o v hq => by have := hc7.block w.heap.size (Nat.lt_of_lt_of_le zx5 H6.out.2.2.2.size) hne0; unfold World.cell? at hq ⊢; simp only [this]; exact hq
              have l0 := k0 0 _ j0
              have l1 := k0 1 _ j1
              have H7 := Lib.hid (And.intro hm7 (And.intro hn7 ht7))
              clear hm7 hn7 ht7 hc7 k0
              refine hKR.out _ _ ?_ (fun hHeld => ?_)
              · exact ⟨k1, l0, l1⟩
              clear hKR KR
              try simp only [List.getElem_toArray, List.getElem_cons_zero, List.getElem_cons_succ, Act.put, List.setIfInBounds_toArray, List.set_cons_zero, List.set_cons_succ]
              refine wpAnyH_done (by kernel_rfl) ?_ _
              refine NoPanic.normal ?_
              have hcw : Chg (fun k => k = eb) w w7 := (Chg.ofBelow H6.out.2.1).trans (chg_turned H7.out.2.2) (fun k _ e => e)
              have HH7 := Lib.hid (HHg.out w7 hcw)
              have HC7 := Lib.hid hcw
              clear hcw k1
              go_wp2_with fail
              refine HH7.out.mono ?_
              intro en w8 hh
              have he8 := hh.1
              subst he8
              have HH8 := Lib.hid hh
              clear hh l0 l1
              go_wp2
              have hc0 : addC L (dn, A) = 0 := add_c6 (by rw [HPo.out]) HQ.out (by rw [HPo.out]; exact fun h => (by have := h.2; rw [HQ2.out] at this; cases this)) HN.out (by have := HM.out; omega)
              have haL : addL L (dn, A) = putE (clE (dn, A)) L := by unfold addL; rw [if_pos hc0]
              rw [← HGG.out, hc0, haL]
              obtain ⟨a1, a2, a3, a4, a5, a6, a7, a8, a9⟩ := HAll.out
              exact add_fin HOf.out.2.2 a2 HG.out ⟨a6, a7, a8, a9⟩ HTr.out.1 a3 a4 a5 a1 HPo.out hle HQ.out H6.out.2.1 H6.out.1 H7.out.1 H7.out.2.1 H7.out.2.2 HH8.out
          · have hNi : ((N : Int) != 0) = true := by simp; omega
            have hN1 := Lib.hid hN0
            clear hN0
            go_wp2
            exact HSame.out N ((add_c4 (by rw [HPo.out]) HQ.out (by rw [HPo.out]; exact fun h => (by have := h.2; rw [HQ2.out] at this; cases this)) (by rw [HN.out]; exact hN1.out)).trans HN.out) hN1.out _ H5.out.2
end Go.Proofs.YtbmnpjkcomcboaaGreatDoor
namespace Go.Proofs.YtbmnpjkcomcboaaGreatDoor
set_option linter.unusedSimpArgs false
set_option linter.unusedVariables false
open Go Go.RowKit Go.Proofs.BerK Go.Proofs.MemK Go.Proofs.UtfK Go.Maps Go.WideMaps

theorem rep_c1 {L : List Ent} {e : Ent} (h : hasE L e.1 = false) : repC L e = 32 := by unfold repC; rw [if_pos h]
theorem rep_c2 {L : List Ent} {e : Ent} (h : hasE L e.1 = true) : repC L e = chkE e := by unfold repC; rw [if_neg (by rw [h]; decide)]
theorem repL_no {L : List Ent} {e : Ent} {c : Nat} (h : repC L e = c) (hc : c ≠ 0) : repL L e = L := by unfold repL; rw [if_neg (by omega)]
theorem del_c1 {L : List Ent} {s : List UInt8} (h : hasE L s = false) : delC L s = 32 := by unfold delC; rw [if_pos h]
theorem del_c2 {L : List Ent} {s : List UInt8} (h : hasE L s = true) (h2 : kidN L s ≠ []) : delC L s = 66 := by unfold delC; rw [if_neg (by rw [h]; decide), if_pos h2]
theorem del_c3 {L : List Ent} {s : List UInt8} (h : hasE L s = true) (h2 : kidN L s = []) : delC L s = 0 := by unfold delC; rw [if_neg (by rw [h]; decide), if_neg (by simp [h2])]
theorem delL_no {L : List Ent} {s : List UInt8} {c : Nat} (h : delC L s = c) (hc : c ≠ 0) : delL L s = L := by unfold delL; rw [if_neg (by omega)]
set_option maxHeartbeats 12800000 in
set_option maxRecDepth 100000 in
theorem dtrep_any (B g sb : Nat) (S : Nat → Prop) (L : List Ent) (A : List Atr) (dn : List UInt8) (av : Value) (w : World) (h : TrAt w B g (.pointer (some ⟨sb, 0, none⟩)) S L) (hT : TrL L) (hl : L.length ≤ 1024) (hsc : Off S w (fun w => ScAt w sb plT plC)) (he : Off S w ErrOk) (hA : EaAt w av A) (hf : FewZ A) (hdn : dn.length ≤ 140737488355328) :
    Calls Tryz.prog 21 #[.pointer (some ⟨g, 0, none⟩), .agg #[.string ⟨dn.toArray⟩, av]] w (TrPost (repC L (dn, A)) B g (.pointer (some ⟨sb, 0, none⟩)) S (repL L (dn, A)) w) := by
  have hal := id h
  obtain ⟨eb, bb, fe, F, nb, hS, hg, ⟨hB1, hB2, hne, hB3⟩, h1, h2, h3, h4⟩ := h
  have zg := obj_lt hg
  have zeb := mvAt_lt h1
  have hge : ¬ g = eb := fun e => by obtain ⟨es, c, hm⟩ := mvAt_map h1; rw [e, hm] at hg; cases hg
  obtain ⟨W0, hW0⟩ : ∃ W, w.alloc (.cells #[.string ⟨dn.toArray⟩, av] 39) = W := ⟨_, rfl⟩
  have hb0 : Below w.heap.size w W0 := by rw [← hW0]; exact (Below.refl _ w).alloc (Nat.le_refl _) _
  have hx0 : W0.heap[w.heap.size]? = some (.cells #[.string ⟨dn.toArray⟩, av] 39 (0, 0)) := by rw [← hW0]; exact heap_alloc_new w _
  have hEr : ∀ w', Below w.heap.size w w' → ErrOk w' := fun w' hb => errOk_below he.now hb
  have HHa := Lib.hid (dthas_any B g _ S L dn W0 (trAt_below hal hb0) hdn)
  have HCk := Lib.hid (fun w' (hb : Below w.heap.size w w') r D (hn : nrD dn = some (r :: D)) => dtchk_any g sb _ _ A dn r D av w' (obj_below hg hb zg) (scAt_below hsc.now hb) (eaAt_below hA hb) hf hn (hEr w' hb))
  have HCl := Lib.hid (fun w' (hb : Below w.heap.size w w') => eclean_any A dn av w' (eaAt_below hA hb) hf.1)
  have HSame := Lib.hid (fun (c : Nat) (hc : repC L (dn, A) = c) (h0 : c ≠ 0) w' (hb : Below w.heap.size w w') => show TrPost (repC L (dn, A)) B g (.pointer (some ⟨sb, 0, none⟩)) S (repL L (dn, A)) w (.returned (.int .i64 (c : Nat))) w' from by rw [repL_no hc h0]; exact trPost_same hc hal hb)
  obtain ⟨a, c, rfl⟩ := eaAt_slice hA
  obtain ⟨n, hnn⟩ : ∃ n, A.length = n := ⟨_, rfl⟩
  rw [hnn] at hW0 hx0 HCk HCl ⊢
  obtain ⟨e0, e1⟩ := obj2s hx0
  have zx := obj_lt hx0
  obtain ⟨c0, c1, c2⟩ := obj3 (obj_below hg hb0 zg)
  have zg0 := Nat.lt_of_lt_of_le zg hb0.size
  have HX := Lib.hid (And.intro hb0 hx0)
  have HW0 := Lib.hid hW0
  have HG := Lib.hid hg
  rw [← hW0] at c0 e0 e1
  have HTr := Lib.hid (And.intro h1 (And.intro hge (And.intro hge zeb)))
  have HAll := Lib.hid (And.intro hT (And.intro hS (And.intro h2 (And.intro h3 (And.intro h4 (And.intro hB1 (And.intro hB2 (And.intro hne hB3))))))))
  have HOf := Lib.hid (And.intro hsc (And.intro he hal))
  obtain ⟨G, hGG⟩ : ∃ G : Ending → World → Prop, TrPost (repC L (dn, A)) B g (.pointer (some ⟨sb, 0, none⟩)) S (repL L (dn, A)) w = G := ⟨_, rfl⟩
  have HGG := Lib.hid hGG
  rw [hGG] at HSame ⊢
  obtain ⟨q, hq⟩ : ∃ q, hasE L dn = q := ⟨_, rfl⟩
  rw [hq] at HHa
  have HQ := Lib.hid hq
  clear hsc he hA hf hnn hb0 hx0 hW0 hg hT hS h1 h2 h3 h4 hB1 hB2 hne hB3 hal hEr hGG hge hq
  go_enter Tryz.func21, Tryz.ntmps21
  go_wp2_with fail
  rw [HW0.out]
  refine HHa.out.mono ?_
  rintro en w3 ⟨rfl, hb3⟩
  have H3 := Lib.hid (And.intro hb3 (HX.out.1.trans (hb3.mono HX.out.1.size)))
  obtain ⟨e0, e1⟩ := obj2s (obj_below HX.out.2 H3.out.1 zx)
  clear hb3 c0 c1 c2 HHa
  cases q with
  | false =>
    go_wp2
    exact HSame.out 32 (rep_c1 HQ.out) (by decide) _ H3.out.2
  | true =>
    obtain ⟨r, D, hrD⟩ : Nm dn := by
      obtain ⟨x, hx, hxe⟩ := hasE_iff.1 HQ.out
      exact hxe ▸ HAll.out.1.nm x hx
    have HC := Lib.hid (HCk.out w3 H3.out.2 r D hrD)
    obtain ⟨N, hN⟩ : ∃ N, chkE (dn, A) = N := ⟨_, rfl⟩
    rw [hN] at HC
    have HN := Lib.hid hN
    clear hN
    go_wp2_with fail
    refine HC.out.mono ?_
    rintro en w5 ⟨rfl, hb5⟩
    have H5 := Lib.hid (And.intro (H3.out.1.trans (hb5.mono H3.out.1.size)) (H3.out.2.trans (hb5.mono H3.out.2.size)))
    obtain ⟨d0, d1⟩ := obj2s (obj_below HX.out.2 H5.out.1 zx)
    obtain ⟨c0, c1, c2⟩ := obj3 (obj_below HG.out H5.out.2 zg)
    have zx5 := Nat.lt_of_lt_of_le zx H5.out.1.size
    have zg5 := Nat.lt_of_lt_of_le zg H5.out.2.size
    clear hb5 e0 e1 HC c0 c2
    by_cases hN0 : N = 0
    · subst hN0
      go_wp2
      refine wp_region_noPanic ?_
      refine wp_region_held_drew (S := fun w' => w'.cell? ⟨g, 1, none⟩ = some (.map (some eb)) ∧ w'.cell? ⟨w.heap.size, 0, none⟩ = some (.string ⟨dn.toArray⟩) ∧ w'.cell? ⟨w.heap.size, 1, none⟩ = some (.slice a n c)) (by kernel_rfl) ?_ (fun hHeld => ?_)
      · exact ⟨c1, d0, d1⟩
      refine wpAnyH_take (i := 0) (v := ?vqr0) rfl (by kernel_rfl) (by kernel_rfl) (by kernel_rfl) (fun _ _ _ h => h) (Or.inl ⟨by rfl, ?yqr0⟩) (by assumption) ?rqr0
      case yqr0 => (intro w' hSw; (try dsimp only at hSw); go_simp; with_reducible rfl)
      try simp only [List.getElem_toArray, List.getElem_cons_zero, List.getElem_cons_succ, Act.put, List.setIfInBounds_toArray, List.set_cons_zero, List.set_cons_succ]
      refine wpAnyH_take (i := 1) (v := ?vqr1) rfl (by kernel_rfl) (by kernel_rfl) (by kernel_rfl) (fun _ _ _ h => h) (Or.inl ⟨by rfl, ?yqr1⟩) (by assumption) ?rqr1
      case yqr1 => (intro w' hSw; (try dsimp only at hSw); go_simp; with_reducible rfl)
      try simp only [List.getElem_toArray, List.getElem_cons_zero, List.getElem_cons_succ, Act.put, List.setIfInBounds_toArray, List.set_cons_zero, List.set_cons_succ]
      refine wpAnyH_take (i := 2) (v := ?vqr2) rfl (by kernel_rfl) (by kernel_rfl) (by kernel_rfl) (fun _ _ _ h => h) (Or.inl ⟨by rfl, ?yqr2⟩) (by assumption) ?rqr2
      case yqr2 => (intro w' hSw; (try dsimp only at hSw); go_simp; with_reducible rfl)
      try simp only [List.getElem_toArray, List.getElem_cons_zero, List.getElem_cons_succ, Act.put, List.setIfInBounds_toArray, List.set_cons_zero, List.set_cons_succ]
      refine wpAnyH_take (i := 3) (v := ?vqr3) rfl (by kernel_rfl) (by kernel_rfl) (by kernel_rfl) (fun _ _ _ h => h) (Or.inl ⟨by rfl, ?yqr3⟩) (by assumption) ?rqr3
      case yqr3 => (intro w' hSw; (try dsimp only at hSw); go_simp; with_reducible rfl)
      try simp only [List.getElem_toArray, List.getElem_cons_zero, List.getElem_cons_succ, Act.put, List.setIfInBounds_toArray, List.set_cons_zero, List.set_cons_succ]
      refine wpAnyH_take (i := 4) (v := ?vqr4) rfl (by kernel_rfl) (by kernel_rfl) (by kernel_rfl) (fun _ _ _ h => h) (Or.inl ⟨by rfl, ?yqr4⟩) (by assumption) ?rqr4
      case yqr4 => (intro w' hSw; (try dsimp only at hSw); go_simp; with_reducible rfl)
      try simp only [List.getElem_toArray, List.getElem_cons_zero, List.getElem_cons_succ, Act.put, List.setIfInBounds_toArray, List.set_cons_zero, List.set_cons_succ]
      refine wpAnyH_take (i := 5) (v := ?vqr5) rfl (by kernel_rfl) (by kernel_rfl) (by kernel_rfl) (fun _ _ _ h => h) (Or.inl ⟨by rfl, ?yqr5⟩) (by assumption) ?rqr5
      case yqr5 => (intro w' hSw; (try dsimp only at hSw); go_simp; with_reducible rfl)
      try simp only [List.getElem_toArray, List.getElem_cons_zero, List.getElem_cons_succ, Act.put, List.setIfInBounds_toArray, List.set_cons_zero, List.set_cons_succ]
      refine wpAnyH_take (i := 6) (v := ?vqr6) rfl (by kernel_rfl) (by kernel_rfl) (by kernel_rfl) (fun _ _ _ h => h) (Or.inl ⟨by rfl, ?yqr6⟩) (by assumption) ?rqr6
      case yqr6 => (intro w' hSw; (try dsimp only at hSw); go_simp; with_reducible rfl)
      try simp only [List.getElem_toArray, List.getElem_cons_zero, List.getElem_cons_succ, Act.put, List.setIfInBounds_toArray, List.set_cons_zero, List.set_cons_succ]
      refine wpAnyH_ready (rs := [7]) (by kernel_rfl) (by simp) ?_
      refine AllReadyH.cons (o := _) rfl (fun KR hKR => ?cqr7) ?nqr7
      case nqr7 => exact AllReadyH.nil
      go_simp
      go_at_call 44
      with_reducible refine (HCl.out _ (by first | exact H5.out.2.drew | exact H5.out.2)).mono ?_
      rintro en w6 ⟨cv, cq, rfl, hok, hcr, hb6⟩
      have hb6 : Below w5.heap.size w5 w6 := (by first | exact (Below.refl _ w5).drew.trans hb6 | exact hb6)
      have hbw : Below w.heap.size w w6 := H5.out.2.trans (hb6.mono H5.out.2.size)
      have i1 := (hb6.cell (p := ⟨g, 1, none⟩) zg5).trans c1
      have j0 := (hb6.cell (p := ⟨w.heap.size, 0, none⟩) zx5).trans d0
      have j1 := (hb6.cell (p := ⟨w.heap.size, 1, none⟩) zx5).trans d1
      have hpa : PaAt w6 cv (clA A) := ⟨cq, _, hok, hcr⟩
      obtain ⟨na, nc, rfl⟩ := ownsRow_slice hcr
      obtain ⟨N1, hN1⟩ : ∃ N1, (clA A).length = N1 := ⟨_, rfl⟩
      rw [hN1] at hpa ⊢
      have hm6 := mvAt_block HTr.out.1 (hbw.block eb HTr.out.2.2.2)
      have H6 := Lib.hid (And.intro hpa (And.intro hbw (And.intro hm6 hb6)))
      clear hok hcr hpa hb6 hbw hm6 hN1
      go_wp2_with fail
      refine hKR.out _ _ ?_ (fun hHeld => ?_)
      · exact ⟨i1, j0, j1⟩
      clear hKR KR
      try simp only [List.getElem_toArray, List.getElem_cons_zero, List.getElem_cons_succ, Act.put, List.setIfInBounds_toArray, List.set_cons_zero, List.set_cons_succ]
      refine wpAnyH_ready (rs := [8]) (by kernel_rfl) (by simp) ?_
      refine AllReadyH.cons (o := _) rfl (fun KR hKR => ?cqr8) ?nqr8
      case nqr8 => exact AllReadyH.nil
      refine step_mvPut rfl (.tmp 29) (.tmp 31) (.tmp 33) 66 39 rfl Tryz.underlying66 eb L.length fe rfl H6.out.2.2.1 (by unfold maxLen; omega) dn (.agg #[.string ⟨dn.toArray⟩, .slice na N1 nc]) rfl rfl hdn ?_
      intro w7 n7 hm7 hn7 ht7
      have hne0 : ¬ w.heap.size = eb := by have := HTr.out.2.2.2; omega
      have hc7 := chg_turned ht7
      have k1 : w7.cell? ⟨g, 1, none⟩ = some (.map (some eb)) := by have := hc7.block g (Nat.lt_of_lt_of_le zg5 H6.out.2.2.2.size) HTr.out.2.1; unfold World.cell? at i1 ⊢; simp only [this]; exact i1
      have k0 : ∀ o v, w6.cell? ⟨w.heap.size, o, none⟩ = some v → w7.cell? ⟨w.heap.size, o, none⟩ = some v := fun o v hq => by have := hc7.block w.heap.size (Nat.lt_of_lt_of_le zx5 H6.out.2.2.2.size) hne0; unfold World.cell? at hq ⊢; simp only [this]; exact hq
      have l0 := k0 0 _ j0
      have l1 := k0 1 _ j1
      have H7 := Lib.hid (And.intro hm7 (And.intro hn7 ht7))
      clear hm7 hn7 ht7 hc7 k0
      refine hKR.out _ _ ?_ (fun hHeld => ?_)
      · exact ⟨k1, l0, l1⟩
      clear hKR KR
      try simp only [List.getElem_toArray, List.getElem_cons_zero, List.getElem_cons_succ, Act.put, List.setIfInBounds_toArray, List.set_cons_zero, List.set_cons_succ]
      refine wpAnyH_done (by kernel_rfl) ?_ _
      refine NoPanic.normal ?_
      clear k1 l0 l1
      go_wp2
      have hc0 : repC L (dn, A) = 0 := (rep_c2 HQ.out).trans HN.out
      have haL : repL L (dn, A) = putE (clE (dn, A)) L := by unfold repL; rw [if_pos hc0]
      rw [← HGG.out, hc0, haL]
      obtain ⟨a1, a2, a3, a4, a5, a6, a7, a8, a9⟩ := HAll.out
      exact rep_fin HOf.out.2.2 a2 HG.out ⟨a6, a7, a8, a9⟩ HTr.out.1 a3 a4 a5 a1 HQ.out H6.out.2.1 H6.out.1 H7.out.1 H7.out.2.1 H7.out.2.2
    · have hNi : ((N : Int) != 0) = true := by simp; omega
      have hN1 := Lib.hid hN0
      clear hN0
      go_wp2
      exact HSame.out N ((rep_c2 HQ.out).trans HN.out) hN1.out _ H5.out.2
set_option maxHeartbeats 12800000 in
set_option maxRecDepth 100000 in
theorem dtdel_any (B g : Nat) (sv : Value) (S : Nat → Prop) (L : List Ent) (dn : List UInt8) (w : World) (h : TrAt w B g sv S L) (hT : TrL L) (hl : L.length ≤ 1024) (he : Off S w ErrOk) (hdn : dn.length ≤ 140737488355328) :
    Calls Tryz.prog 20 #[.pointer (some ⟨g, 0, none⟩), .string ⟨dn.toArray⟩] w (TrPost (delC L dn) B g sv S (delL L dn) w) := by
  have hal := id h
  obtain ⟨eb, bb, fe, F, nb, hS, hg, ⟨hB1, hB2, hne, hB3⟩, h1, h2, h3, h4⟩ := h
  have zg := obj_lt hg
  have zeb := mvAt_lt h1
  have hge : ¬ g = eb := fun e => by obtain ⟨es, c, hm⟩ := mvAt_map h1; rw [e, hm] at hg; cases hg
  have HHa := Lib.hid (dthas_any B g _ S L dn w hal hdn)
  have HSame := Lib.hid (fun (c : Nat) (hc : delC L dn = c) (h0 : c ≠ 0) w' (hb : Below w.heap.size w w') => show TrPost (delC L dn) B g sv S (delL L dn) w (.returned (.int .i64 (c : Nat))) w' from by rw [delL_no hc h0]; exact trPost_same hc hal hb)
  have HG := Lib.hid hg
  have HTr := Lib.hid (And.intro h1 (And.intro hge (And.intro hge zeb)))
  have HAll := Lib.hid (And.intro hT (And.intro hS (And.intro h2 (And.intro h3 (And.intro h4 (And.intro hB1 (And.intro hB2 (And.intro hne hB3))))))))
  have HOf := Lib.hid (And.intro he hal)
  obtain ⟨G, hGG⟩ : ∃ G : Ending → World → Prop, TrPost (delC L dn) B g sv S (delL L dn) w = G := ⟨_, rfl⟩
  have HGG := Lib.hid hGG
  rw [hGG] at HSame ⊢
  obtain ⟨q, hq⟩ : ∃ q, hasE L dn = q := ⟨_, rfl⟩
  rw [hq] at HHa
  have HQ := Lib.hid hq
  clear he hg hT hS h1 h2 h3 h4 hB1 hB2 hne hB3 hal hGG hge hq
  go_enter Tryz.func20, Tryz.ntmps20
  go_wp2_with fail
  refine HHa.out.mono ?_
  rintro en w3 ⟨rfl, hb3⟩
  have H3 := Lib.hid hb3
  clear hb3 HHa
  cases q with
  | false =>
    go_wp2
    exact HSame.out 32 (del_c1 HQ.out) (by decide) _ H3.out
  | true =>
    obtain ⟨c0, c1, c2⟩ := obj3 (obj_below HG.out H3.out zg)
    obtain ⟨p, l, hpl, hle, _, D2, hD2⟩ : ∃ p l, parL dn = (p, true) ∧ leafL dn = (l, true) ∧ paL dn = paL p ++ [l] ∧ ∃ D, nrD p = some D := nm_par (by
      obtain ⟨x, hx, hxe⟩ := hasE_iff.1 HQ.out
      exact hxe ▸ HAll.out.1.nm x hx)
    have hp4 : p.length ≤ 4096 := by
      have := nr_some hD2
      rw [this.1]; exact this.2.2.2
    have HHg := Lib.hid (fun w7 (hc : Chg (fun k => k = eb) w w7) => by
      obtain ⟨a1, a2, a3, a4, a5, a6, a7, a8, a9⟩ := HAll.out
      exact dtunh_any B g bb nb F (kidN L) dn p true w7 ⟨_, eb, obj_chg HG.out hc HTr.out.2.1⟩ (mvAt_chg a4 hc (fun e => a8 e.symm)) (kidIs_chg a5 hc (fun q k hk e => kid_ne_map a5 hk (by have e : k = eb := e; rw [e]; exact mvAt_map HTr.out.1))) (by have := tr_nb a4; omega) hpl (by have := kid_len L p; omega) (by omega) (HOf.out.1 w7 (hc.mono (fun k _ e => by rw [a2]; exact .inl e))))
    obtain ⟨m, hm⟩ : ∃ m, (kidN L dn).length = m := ⟨_, rfl⟩
    obtain ⟨va, vc, hv⟩ := ownsRow_slice (HAll.out.2.2.2.2.1 dn).2.1
    rw [hm] at hv
    have hlk : (Instr.lookup 67 (.map (some bb)) (.string ⟨dn.toArray⟩) false).run Tryz.prog w3 = .ok (.slice va m vc) w3 := by
      obtain ⟨a1, a2, a3, a4, a5, a6, a7, a8, a9⟩ := HAll.out
      have hm' := mvAt_block a4 (H3.out.block bb (mvAt_lt a4))
      rw [mv_look1 hm' Tryz.underlying67 (dtzK w3) dn hdn]
      unfold kidF
      by_cases h0 : kidN L dn = []
      · have e := (a5 dn).1 h0
        rw [hv] at e
        rw [if_pos h0, Option.getD_none, ← e]
      · rw [if_neg h0, Option.getD_some, hv]
    have HM := Lib.hid hm
    have HP := Lib.hid (And.intro hpl (And.intro hp4 hD2))
    clear hm hv hpl hle hp4 hD2 c0
    by_cases hm0 : 0 < m
    · have q1 : (0 : Int) < (m : Int) := by omega
      go_wp2
      exact HSame.out 66 (del_c2 HQ.out (fun e => by have := HM.out; rw [e] at this; simp at this; omega)) (by decide) _ H3.out
    · obtain rfl : m = 0 := by omega
      clear hm0
      go_wp2_with (at_delete; refine wpList_mvDel rfl (.tmp 22) (.tmp 23) 66 39 rfl Tryz.underlying66 eb L.length fe rfl (mvAt_block HTr.out.1 (H3.out.block eb HTr.out.2.2.2)) dn rfl hdn ?_)
      intro w7 n7 hm7 hn7 ht7
      have hcw : Chg (fun k => k = eb) w w7 := (Chg.ofBelow H3.out).trans (chg_turned ht7) (fun k _ e => e)
      have HH7 := Lib.hid (HHg.out w7 hcw)
      have H7 := Lib.hid (And.intro hm7 (And.intro hn7 ht7))
      clear hm7 hn7 ht7 hcw c1 c2 hlk
      go_wp2_with fail
      refine HH7.out.mono ?_
      intro en w8 hh
      have he8 := hh.1
      subst he8
      have HH8 := Lib.hid hh
      clear hh
      go_wp2
      have hc0 : delC L dn = 0 := del_c3 HQ.out (List.eq_nil_of_length_eq_zero HM.out)
      have haL : delL L dn = dropE L dn := by unfold delL; rw [if_pos hc0]
      rw [← HGG.out, hc0, haL]
      obtain ⟨a1, a2, a3, a4, a5, a6, a7, a8, a9⟩ := HAll.out
      exact del_fin HOf.out.2 a2 HG.out ⟨a6, a7, a8, a9⟩ HTr.out.1 a3 a4 a5 a1 HP.out.1 HQ.out H3.out H7.out.1 H7.out.2.1 H7.out.2.2 HH8.out
end Go.Proofs.YtbmnpjkcomcboaaGreatDoor
