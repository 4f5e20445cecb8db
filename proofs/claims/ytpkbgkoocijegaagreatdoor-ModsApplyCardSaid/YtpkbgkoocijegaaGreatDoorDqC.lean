/- Whether a part, and a name, may be: the code's side. A name's text: the code's side. The document's Lower, Check, Part and Put, for every name. The document's Part and Put, for every name. -/
import Derived.Test.YtpkbgkoocijegaaGreatDoorDqB
import Derived.Test.YtpkbgkoocijegaaGreatDoorDqA
set_option linter.unusedVariables false
set_option linter.unusedSimpArgs false
set_option maxHeartbeats 25600000
set_option maxRecDepth 100000
namespace Go.Proofs.YtpkbgkoocijegaaGreatDoor
open Go Go.RowKit Go.Proofs.BerK Go.Proofs.MemK Go.Proofs.UtfK
theorem pg_step (r : List Av) (k : Nat) (h : k < r.length) : pgL (r.take k) (r.drop k) = (avOk r[k] && !twL (r.take k) r[k] && pgL (r.take (k + 1)) (r.drop (k + 1))) := by
 rw [drop_at r k h, pgL, List.take_succ_eq_append_getElem h]
theorem pg_end (r : List Av) : pgL (r.take r.length) (r.drop r.length) = true := by rw [List.drop_length]; rfl
theorem avOk_ways (p : Av) : (avOk p = false /\ (tyL p.1 = false \/ (tyL p.1 = true /\ p.2 = []) \/ (tyL p.1 = true /\ p.2 ≠ [] /\ 256 < p.2.length))) \/ (avOk p = true /\ tyL p.1 = true /\ p.2 ≠ [] /\ p.2.length <= 256) := by
 unfold avOk
 cases tyL p.1 <;> by_cases h : p.2 = [] <;> by_cases h2 : p.2.length <= 256 <;> simp [h, h2] <;> omega
theorem dpart_any (v : Value) (r : List Av) (w : World) (h : AvAt w v r) :
  Calls Tryz.prog 152 #[v] w (BoolPost (prL r) w) := by
 obtain ⟨a, c, hv, hcap, _⟩ := id h
 by_cases h0 : r.length < 1 \/ 8 < r.length
 ·have H := Hy (show prL r = false by simp only [prL, Bool.and_eq_false_iff, decide_eq_false_iff_not]; omega)
  have h0' : (r.length : Int) < 1 \/ (1 <= (r.length : Int) /\ (8 : Int) < (r.length : Int)) := by omega
  subst hv
  clear h0 h
  rcases h0' with h0 | ⟨h0, h1⟩
  all_goals
   go_enter Tryz.func152, Tryz.ntmps152
   go_wp2
   go_ret
   exact boolPost_mk H.out (Below.refl _ _)
 ·have h1 : (1 : Int) <= (r.length : Int) := by omega
  have h2 : (r.length : Int) <= 8 := by omega
  have HP := Hy (show prL r = pgL [] r by simp only [prL, Bool.and_eq_true, decide_eq_true_eq]; rw [show decide (1 <= r.length) = true by simp; omega, show decide (r.length <= 8) = true by simp; omega]; rfl)
  have HA := Hy h
  subst hv
  clear h0 h
  go_enter Tryz.func152, Tryz.ntmps152
  go_wp2
  go_loopw [15] (fun v wr => ∃ k : Nat, k <= r.length /\ v = .int .i64 (k : Nat) /\ Below w.heap.size w wr /\ pgL (r.take k) (r.drop k) = prL r) (fun v _ => r.length - (intOf v).toNat)
  case atStart => exact ⟨0, by omega, rfl, Below.refl _ _, by rw [HP.out]; rfl⟩
  case round =>
   obtain ⟨k, hk, rfl, hb, hinv⟩ := hrel
   by_cases hlt : k < r.length
   ·obtain ⟨a', c', hv, _, hcells⟩ := avAt_below HA.out hb
    injection hv with hv1 hv2 hv3
    subst hv1 hv3
    obtain ⟨g, o, rfl, hg, c1, c2⟩ := hcells k hlt
    rw [pg_step r k hlt] at hinv
    have hkl : (k : Int) < (r.length : Int) := by omega
    obtain ⟨T, hT⟩ : ∃ T, r[k].1 = T := ⟨_, rfl⟩
    obtain ⟨V, hV⟩ : ∃ V, r[k].2 = V := ⟨_, rfl⟩
    have hw := avOk_ways r[k]
    have htw : twL (r.take k) r[k] = (r.take k).any (fun q => lowL q.1 == lowL T) := by rw [twL, hT]
    rw [hT, hV] at hw
    rw [hT] at c1
    rw [hV] at c2
    have HT := Hy (dtype_any ⟨T.toArray⟩)
    change Hid (∀ w, Calls Tryz.prog _ _ w (PureB (tyL T) w)) at HT
    obtain ⟨W, hW⟩ : ∃ W, wr.alloc (.cells #[.string ⟨T.toArray⟩, .string ⟨V.toArray⟩] 97) = W := ⟨_, rfl⟩
    have hbW : Below w.heap.size w W := by rw [<- hW]; exact hb.alloc hb.size _
    have hd1 : W.cell? ⟨wr.heap.size, 0, none⟩ = some (.string ⟨T.toArray⟩) := by rw [<- hW, World.cell?_alloc_mark wr _ _ (0, 0)]; rfl
    have hd2 : W.cell? ⟨wr.heap.size, 1, none⟩ = some (.string ⟨V.toArray⟩) := by rw [<- hW, World.cell?_alloc_mark wr _ _ (0, 0)]; rfl
    have hz : wr.heap.size < W.heap.size := by rw [<- hW]; simp
    rcases hw with ⟨hok, hw⟩ | ⟨hok, hw1, hw2, hw3⟩
    ·rw [hok, Bool.false_and, Bool.false_and] at hinv
     have H := Hy (An hbW hinv.symm)
     clear hinv hb hcells hok hbW htw hT hV
     rcases hw with hw | ⟨hw, hV0⟩ | ⟨hw, hw2, hw3⟩
     ·rw [hw] at HT
      go_wp2_with fail
      refine (HT.out _).mono ?_
      rintro e w2 ⟨rfl, hw2⟩
      obtain rfl := hw2.symm
      go_wp2
      go_ret
      exact boolPost_mk H.out.2 H.out.1
     ·rw [hw] at HT
      have hem : V.isEmpty = true := by rw [hV0]; rfl
      clear hV0
      go_wp2_with fail
      refine (HT.out _).mono ?_
      rintro e w2 ⟨rfl, hw2⟩
      obtain rfl := hw2.symm
      go_wp2
      go_ret
      exact boolPost_mk H.out.2 H.out.1
     ·rw [hw] at HT
      have hem : V.isEmpty = false := by cases V <;> simp_all
      have hgt : (256 : Int) < (V.length : Int) := by omega
      clear hw2 hw3
      go_wp2_with fail
      refine (HT.out _).mono ?_
      rintro e w2 ⟨rfl, hw2⟩
      obtain rfl := hw2.symm
      go_wp2
      go_ret
      exact boolPost_mk H.out.2 H.out.1
    ·rw [hok, Bool.true_and] at hinv
     rw [hw1] at HT
     have hem : V.isEmpty = false := by cases V <;> simp_all
     have hgt : (V.length : Int) <= 256 := by omega
     have hk0 : (0 : Int) <= (k : Int) := by omega
     have hkc : (k : Int) <= (c : Int) := by omega
     obtain ⟨a', c', hv, hA2⟩ := avAt_take (avAt_below HA.out hbW) k hk
     injection hv with hv1 hv2 hv3
     subst hv1 hv3
     have HH := Hy (fun w' (hb2 : Below W.heap.size W w') => dhas_any _ _ ⟨T.toArray⟩ w' (avAt_below hA2 hb2) (by simp; omega))
     change Hid (∀ w', Below W.heap.size W w' -> Calls Tryz.prog _ _ w' (BoolPost ((r.take k).any (fun q => lowL q.1 == lowL T)) w')) at HH
     rw [<- htw] at HH
     obtain ⟨q, hq⟩ : ∃ q, twL (r.take k) r[k] = q := ⟨_, rfl⟩
     rw [hq] at HH hinv
     have H := Hy (An hbW hinv)
     clear hinv hb hcells hok hbW htw hT hV hw1 hw2 hw3 hA2 hq
     go_wp2_with fail
     refine (HT.out _).mono ?_
     rintro e w2 ⟨rfl, hw2⟩
     obtain rfl := hw2.symm
     go_wp2
     go_region_held3 (fun w' => w'.cell? ⟨wr.heap.size, 0, none⟩ = some (.string ⟨T.toArray⟩)) (first | exact he1 | exact hd1 | go_keep)
      (first | (go_at_call 196; refine (HH.out _ ((Below.refl _ W).drew)).mono ?_; rintro en w3 ⟨rfl, hb3⟩; have he1 := (hb3.cell (p := ⟨wr.heap.size, 0, none⟩) hz).trans hd1))
     have hb4 : Below w.heap.size w w3 := H.out.1.trans ((Below.refl _ W).drew.trans hb3 |>.mono H.out.1.size)
     have H4 := Hy hb4
     clear hb3 hb4 he1
     cases q
     ·go_wp2
      refine ⟨⟨k + 1, by omega, by go_num, H4.out, ?_⟩, by simp [intOf]; omega⟩
      have := H.out.2
      simpa using this
     ·go_wp2
      go_ret
      refine boolPost_mk ?_ H4.out
      have := H.out.2
      simpa using this.symm
   ·obtain rfl : k = r.length := by omega
    rw [pg_end] at hinv
    have H := Hy (An hb hinv.symm)
    clear hb hinv
    go_wp2
    go_ret
    exact boolPost_mk H.out.2 H.out.1
def NumPost (n : Nat) (w : World) (en : Ending) (w' : World) : Prop := en = .returned (.int .i64 (n : Nat)) /\ Below w.heap.size w w'
theorem numPost_mk {n m : Nat} {w w' : World} (h : n = m) (hb : Below w.heap.size w w') : NumPost n w (.returned (.int .i64 (m : Nat))) w' := by subst h; exact ⟨rfl, hb⟩
theorem ckD_long (d : List (List Av)) (h : 32 < d.length) : ckD d = 3 := by rw [ckD, if_pos h]
theorem ckD_bad (d : List (List Av)) (h : d.length <= 32) (k : Nat) (hk : k < d.length) (hp : prL d[k] = false) : ckD d = 5 := by
 have : d.all prL = false := by
  rw [List.all_eq_false]
  exact ⟨d[k], List.getElem_mem hk, by simp [hp]⟩
 rw [ckD, if_neg (by omega), this]; rfl
theorem ckD_good (d : List (List Av)) (h : d.length <= 32) (hp : d.all prL = true) : ckD d = 0 := by rw [ckD, if_neg (by omega), hp]; rfl
theorem all_take {α : Type} (p : α -> Bool) (r : List α) (k : Nat) (h : k < r.length) (h1 : (r.take k).all p = true) (h2 : p r[k] = true) : (r.take (k + 1)).all p = true := by
 rw [List.take_succ_eq_append_getElem h, List.all_append, h1]; simp [h2]
theorem dcheck_any (v : Value) (d : List (List Av)) (w : World) (h : DnAt w v d) :
  Calls Tryz.prog 97 #[v] w (NumPost (ckD d) w) := by
 obtain ⟨a, c, hv, hcap, _⟩ := id h
 have HA := Hy h
 subst hv
 clear h
 by_cases h0 : 32 < d.length
 ·have H := Hy (ckD_long d h0)
  have h1 : (32 : Int) < (d.length : Int) := by omega
  clear h0
  go_enter Tryz.func97, Tryz.ntmps97
  go_wp2
  go_ret
  exact numPost_mk H.out (Below.refl _ _)
 ·have h1 : (d.length : Int) <= 32 := by omega
  have HB := Hy (ckD_bad d (by omega))
  have HG := Hy (ckD_good d (by omega))
  clear h0
  go_enter Tryz.func97, Tryz.ntmps97
  go_wp2
  go_loopw [10] (fun v wr => ∃ k : Nat, k <= d.length /\ v = .int .i64 (k : Nat) /\ Below w.heap.size w wr /\ (d.take k).all prL = true) (fun v _ => d.length - (intOf v).toNat)
  case atStart => exact ⟨0, by omega, rfl, Below.refl _ _, rfl⟩
  case round =>
   obtain ⟨k, hk, rfl, hb, hall⟩ := hrel
   by_cases hlt : k < d.length
   ·obtain ⟨a', c', hv, _, hcells⟩ := dnAt_below HA.out hb
    injection hv with hv1 hv2 hv3
    subst hv1 hv3
    obtain ⟨g, o, u, rfl, hg, c1, hav⟩ := hcells k hlt
    have hkl : (k : Int) < (d.length : Int) := by omega
    have HC := Hy (dpart_any u d[k] wr hav)
    obtain ⟨ua, uc, hu, _, _⟩ := hav
    subst hu
    obtain ⟨q, hq⟩ : ∃ q, prL d[k] = q := ⟨_, rfl⟩
    cases q
    ·rw [hq] at HC
     have H := Hy (An hb (HB.out k hlt hq))
     clear hb hall hcells hq
     go_wp2_with fail
     refine HC.out.mono ?_
     rintro e w2 ⟨rfl, hb2⟩
     go_wp2
     go_ret
     exact numPost_mk H.out.2 (H.out.1.trans (hb2.mono H.out.1.size))
    ·rw [hq] at HC
     have H := Hy (An hb (all_take prL d k hlt hall hq))
     clear hb hall hcells hq
     go_wp2_with fail
     refine HC.out.mono ?_
     rintro e w2 ⟨rfl, hb2⟩
     go_wp2
     exact ⟨⟨k + 1, by omega, by go_num, H.out.1.trans (hb2.mono H.out.1.size), H.out.2⟩, by simp [intOf]; omega⟩
   ·obtain rfl : k = d.length := by omega
    rw [List.take_length] at hall
    have H := Hy (An hb (HG.out hall))
    clear hb hall
    go_wp2
    go_ret
    exact numPost_mk H.out.2 H.out.1
theorem jn_step (sep : UInt8) (l : List (List UInt8)) (k : Nat) (h : k < l.length) : jnL sep (decide (k = 0)) (l.drop k) = (if k = 0 then [] else [sep]) ++ (l[k] ++ jnL sep (decide (k + 1 = 0)) (l.drop (k + 1))) := by
 rw [drop_at l k h, jnL, show decide (k + 1 = 0) = false by simp]
 simp only [decide_eq_true_eq]
theorem jn_end (sep : UInt8) (l : List (List UInt8)) (f : Bool) : jnL sep f (l.drop l.length) = [] := by rw [List.drop_length]; rfl
theorem es_len (f : Bool) (l : List UInt8) : (egL f l).length <= 3 * l.length := by
 induction l generalizing f with
 | nil => simp [egL]
 | cons c r ih =>
  rw [egL, List.length_append, List.length_cons]
  have := ih false
  have : (e1L f r.isEmpty c).length <= 3 := by
   unfold e1L
   split
   ·simp
   ·split <;> simp
  omega
theorem tyL_len {s : List UInt8} (h : tyL s = true) : s.length <= 64 := by
 simp only [tyL, Bool.and_eq_true, decide_eq_true_eq] at h; exact h.1.2
theorem pgL_mem (seen r : List Av) (h : pgL seen r = true) : ∀ p ∈ r, avOk p = true := by
 induction r generalizing seen with
 | nil => intro p hp; cases hp
 | cons q r ih =>
  rw [pgL, Bool.and_eq_true, Bool.and_eq_true] at h
  intro p hp
  rcases List.mem_cons.1 hp with rfl | hp
  ·exact h.1.1
  ·exact ih _ h.2 p hp
theorem avOk_len {p : Av} (h : avOk p = true) : p.1.length <= 64 /\ p.2 ≠ [] /\ p.2.length <= 256 /\ tyL p.1 = true := by
 simp only [avOk, Bool.and_eq_true, decide_eq_true_eq] at h
 exact ⟨tyL_len h.1.1, h.1.2, h.2, h.1.1⟩
theorem prL_facts {r : List Av} (h : prL r = true) : 1 <= r.length /\ r.length <= 8 /\ ∀ p ∈ r, avOk p = true := by
 simp only [prL, Bool.and_eq_true, decide_eq_true_eq] at h
 exact ⟨h.1.1, h.1.2, pgL_mem _ _ h.2⟩
theorem ckD_facts {d : List (List Av)} (h : ckD d = 0) : d.length <= 32 /\ ∀ r ∈ d, prL r = true := by
 unfold ckD at h
 split at h
 ·cases h
 ·split at h
  ·rename_i h1 h2
   exact ⟨by omega, fun r hr => List.all_eq_true.1 h2 r hr⟩
  ·cases h
theorem av_len {p : Av} (h : avOk p = true) : (avL p).length <= 833 := by
 have h1 := avOk_len h
 have h2 := es_len true p.2
 rw [avL, List.length_append, List.length_cons, esL]; omega
def PutPost (p : List UInt8 × Nat) (w : World) (en : Ending) (w' : World) : Prop := en = .returned (.tuple #[.string ⟨p.1.toArray⟩, .int .i64 (p.2 : Nat)]) /\ Below w.heap.size w w'
theorem putPost_mk {p : List UInt8 × Nat} {a : List UInt8} {n : Nat} {w w' : World} (h : p = (a, n)) (hb : Below w.heap.size w w') : PutPost p w (.returned (.tuple #[.string ⟨a.toArray⟩, .int .i64 (n : Nat)])) w' := by subst h; exact ⟨rfl, hb⟩
theorem puD_err (d : List (List Av)) (h : ckD d ≠ 0) : puD d = ([], ckD d) := by rw [puD, if_pos h]
theorem puD_long (d : List (List Av)) (h : ckD d = 0) (h2 : 4096 < (nmL d).length) : puD d = ([], 3) := by rw [puD, if_neg (by omega), if_pos h2]
theorem puD_ok (d : List (List Av)) (h : ckD d = 0) (h2 : ¬ 4096 < (nmL d).length) : puD d = (nmL d, 0) := by rw [puD, if_neg (by omega), if_neg h2]
theorem dput_any (v : Value) (d : List (List Av)) (w : World) (h : DnAt w v d) :
  Calls Tryz.prog 224 #[v] w (PutPost (puD d) w) := by
 have HC := Hy (dcheck_any v d w h)
 have HA := Hy h
 obtain ⟨a, c, hv, hcap, _⟩ := id h
 subst hv
 clear h
 by_cases h0 : ckD d = 0
 ·rw [h0] at HC
  obtain ⟨hd1, hd2⟩ := ckD_facts h0
  have HL := Hy (puD_long d h0)
  have HO := Hy (puD_ok d h0)
  have hd3 : (d.length : Int) <= 32 := by omega
  clear h0
  go_enter Tryz.func224, Tryz.ntmps224
  go_wp2_with fail
  refine HC.out.mono ?_
  rintro e w1 ⟨rfl, hb1⟩
  go_wp2
  go_loopw [5, 17] (fun o v wr => ∃ (k : Nat) (X : List UInt8), k <= d.length /\ v = .int .i64 (k : Nat) /\ wr.ownsRow w.heap.size 5 1 o X.length (bc X) /\ Below w.heap.size w wr /\ X.length <= 6700 * k /\
   X ++ jnL 44 (decide (k = 0)) ((d.map ptL).drop k) = nmL d) (fun _ v _ => d.length - (intOf v).toNat)
  case atStart => exact ⟨0, [], by omega, rfl, World.ownsRow_nil _ _ _ _, hb1, by simp, rfl⟩
  case round =>
   obtain ⟨k, X, hk, rfl, hown, hb, hX, hinv⟩ := hrel
   by_cases hlt : k < d.length
   ·obtain ⟨a', c', hv, _, hcells⟩ := HA.out
    injection hv with hv1 hv2 hv3
    subst hv1 hv3
    obtain ⟨g, o, u, rfl, hg, c1w, hav⟩ := hcells k hlt
    have c1 := (hb.cell (p := ⟨g, _, none⟩) hg).trans c1w
    have hkl : (k : Int) < (d.length : Int) := by omega
    obtain ⟨hr1, hr2, hr3⟩ := prL_facts (hd2 _ (List.getElem_mem hlt))
    rw [jn_step 44 (d.map ptL) k (by simpa using hlt)] at hinv
    simp only [List.getElem_map] at hinv
    obtain ⟨r, hr⟩ : ∃ r, d[k] = r := ⟨_, rfl⟩
    rw [hr] at hav hr1 hr2 hr3 hinv
    obtain ⟨Z, hZ⟩ : ∃ Z, jnL 44 (decide (k + 1 = 0)) ((d.map ptL).drop (k + 1)) = Z := ⟨_, rfl⟩
    rw [hZ] at hinv
    obtain ⟨ua, uc, hu, hucap, hucells⟩ := id hav
    subst hu
    have HV := Hy (An hav (An hr3 hZ))
    have hr2' : (r.length : Int) <= 8 := by omega
    clear hcells hucells hav c1w
    have hX1 : ∃ X' : List UInt8, (¬ 0 < k /\ X' = X \/ 0 < k /\ X' = X ++ [44]) /\ X'.length <= 6700 * k + 1 /\ X' ++ (ptL r ++ Z) = nmL d := by
     by_cases hk0 : k = 0
     ·rw [if_pos hk0, List.nil_append] at hinv
      exact ⟨X, .inl ⟨by omega, rfl⟩, by omega, hinv⟩
     ·rw [if_neg hk0, <- List.append_assoc] at hinv
      exact ⟨_, .inr ⟨by omega, rfl⟩, by simp; omega, hinv⟩
    obtain ⟨X', hway, hX', hinv'⟩ := hX1
    have HX := Hy (An hown (An hb (An hX (An hX' hinv'))))
    clear hown hb hinv hX hX' hinv'
    rcases hway with ⟨hk0, rfl⟩ | ⟨hk0, rfl⟩
    ·go_wp2
     have HY := Hy (An HX.out.1 (An HX.out.2.1 (An HX.out.2.2.2.1 HX.out.2.2.2.2)))
     go_loopw [5, 29] (fun o v wr => ∃ (j : Nat) (Y : List UInt8), j <= r.length /\ v = .int .i64 (j : Nat) /\ wr.ownsRow w.heap.size 5 1 o Y.length (bc Y) /\ Below w.heap.size w wr /\ Y.length <= 6700 * k + 1 + 834 * j /\
      Y ++ (jnL 43 (decide (j = 0)) ((r.map avL).drop j) ++ Z) = nmL d) (fun _ v _ => r.length - (intOf v).toNat)
     case atStart => exact ⟨0, _, by omega, rfl, HY.out.1, HY.out.2.1, by have := HY.out.2.2.1; omega, HY.out.2.2.2⟩
     case round =>
      obtain ⟨j, Y, hj, rfl, hown, hb, hY, hinv⟩ := hrel
      by_cases hlj : j < r.length
      ·obtain ⟨a2, c2, hv, _, hcl⟩ := avAt_below HV.out.1 hb
       injection hv with hv1 hv2 hv3
       subst hv1 hv3
       obtain ⟨g2, o2, rfl, hg2, e1, e2⟩ := hcl j hlj
       have hjl : (j : Int) < (r.length : Int) := by omega
       have hav := avOk_len (HV.out.2.1 _ (List.getElem_mem hlj))
       rw [jn_step 43 (r.map avL) j (by simpa using hlj)] at hinv
       simp only [List.getElem_map] at hinv
       obtain ⟨T, hT⟩ : ∃ T, r[j].1 = T := ⟨_, rfl⟩
       obtain ⟨V, hVV⟩ : ∃ V, r[j].2 = V := ⟨_, rfl⟩
       have hal : avL r[j] = T ++ 61 :: esL V := by rw [avL, hT, hVV]
       rw [hT] at e1 hav
       rw [hVV] at e2 hav
       rw [hal] at hinv
       obtain ⟨Z2, hZ2⟩ : ∃ Z2, jnL 43 (decide (j + 1 = 0)) ((r.map avL).drop (j + 1)) ++ Z = Z2 := ⟨_, rfl⟩
       have HAV := Hy (show T.length <= 64 /\ V.length <= 256 from ⟨hav.1, hav.2.2.1⟩)
       obtain ⟨bx, hbx⟩ : ∃ bx, wr.heap.size = bx := ⟨_, rfl⟩
       obtain ⟨W2, hW2⟩ : ∃ W2, wr.alloc (.cells #[.string ⟨T.toArray⟩, .string ⟨V.toArray⟩] 97) = W2 := ⟨_, rfl⟩
       have hbox : W2.heap[bx]? = some (.cells #[.string ⟨T.toArray⟩, .string ⟨V.toArray⟩] 97 (0, 0)) := by rw [<- hW2, <- hbx]; exact heap_alloc_new wr _
       have hY1 : ∃ Y' : List UInt8, (¬ 0 < j /\ Y' = Y \/ 0 < j /\ Y' = Y ++ [43]) /\ Y'.length <= 6700 * k + 1 + 834 * j + 1 /\ Y' ++ ((T ++ 61 :: esL V) ++ Z2) = nmL d := by
        by_cases hj0 : j = 0
        ·rw [if_pos hj0, List.nil_append, List.append_assoc, hZ2] at hinv
         exact ⟨Y, .inl ⟨by omega, rfl⟩, by omega, hinv⟩
        ·rw [if_neg hj0, List.append_assoc, List.append_assoc, hZ2, <- List.append_assoc] at hinv
         exact ⟨_, .inr ⟨by omega, rfl⟩, by simp; omega, hinv⟩
       obtain ⟨Y', hway, hY', hinv'⟩ := hY1
       have hlt2 := hown.lt
       have HO2 := Hy (An (hW2 ▸ hown.alloc _ : W2.ownsRow w.heap.size 5 1 _ Y.length (bc Y)) (An (hW2 ▸ hb.alloc hb.size _ : Below w.heap.size w W2) (An hY (An hbox (An hlt2 hZ2)))))
       have HI2 := Hy (An hY' hinv')
       clear hown hb hinv hY hY' hinv' hcl hav hal hT hVV hbox hlt2 hZ2
       rcases hway with ⟨hj0, rfl⟩ | ⟨hj0, rfl⟩
       ·have HB3 := Hy (An HO2.out.1 (An HO2.out.2.2.2.1 (An (fun hh => by have := HO2.out.2.2.2.2.1 bx hh; omega : ¬ _ = some bx) (An HO2.out.2.1 HI2.out))))
        have bo0 := obj_cell HB3.out.2.1 0 _ rfl
        have bo1 := obj_cell HB3.out.2.1 1 _ rfl
        have hz3 := obj_lt HB3.out.2.1
        have HE := Hy (fun w' => desc_any ⟨V.toArray⟩ (by show V.length <= _; have := HAV.out; omega) w')
        change Hid (∀ w', Calls Tryz.prog _ _ w' (StrPost (esL V) w')) at HE
        have HEL := Hy (show (esL V).length <= 768 from Nat.le_trans (es_len true V) (by have := HAV.out; omega))
        obtain ⟨EV, hEV⟩ : ∃ EV, esL V = EV := ⟨_, rfl⟩
        rw [hEV] at HE HEL
        have hl1 : ¬ (9223372036854775807 < T.length + 1) := by have := HAV.out; omega
        have hl2 : ¬ (9223372036854775807 < T.length + 1 + EV.length) := by have := HAV.out; have := HEL.out; omega
        have HRoom := Hy (show Y'.length + (⟨T.toArray⟩ ++ ⟨#[61]⟩ ++ ⟨EV.toArray⟩ : ByteArray).size <= 140737488355328 by
         rw [show (⟨#[61]⟩ : ByteArray) = ⟨[61].toArray⟩ from rfl, cat_l, cat_l]
         show Y'.length + ((T ++ [61]) ++ EV).length <= _
         have h8 := HB3.out.2.2.2.2.1
         have := HAV.out
         have := HEL.out
         simp only [List.length_append, List.length_cons, List.length_nil] at h8 ⊢
         omega)
        go_wp2
        go_region_held3 (fun w' => w'.cell? ⟨bx, 0, none⟩ = some (.string ⟨T.toArray⟩) /\ w'.cell? ⟨bx, 1, none⟩ = some (.string ⟨V.toArray⟩)) (first | exact ⟨he0, he1⟩ | exact ⟨bo0, bo1⟩ | go_keep)
         (first | (go_at_call 249; refine (HE.out _).mono ?_; rintro en w5 ⟨rfl, hb5⟩; have hbW : Below W2.heap.size W2 w5 := (Below.refl _ W2).drew.trans hb5; have he0 := (hbW.cell (p := ⟨bx, 0, none⟩) hz3).trans bo0; have he1 := (hbW.cell (p := ⟨bx, 1, none⟩) hz3).trans bo1) | (refine step_apps rfl (.tmp 39) (.tmp 46) 188 9 5 rfl w.heap.size Tryz.info5 Tryz.underlying188 Tryz.underlying9 _ Y' rfl (ownsRow_below HB3.out.1 hbW) _ rfl HRoom.out (Nat.le_trans HB3.out.2.2.2.1.size hbW.size) ?_; intro v6 w6 g1 g2 g3; have hx6 := obj_chg (obj_below HB3.out.2.1 hbW hz3) g3 (fun hh => HB3.out.2.2.1 hh.symm); have he0 := obj_cell hx6 0 _ rfl; have he1 := obj_cell hx6 1 _ rfl))
        have e9 : (⟨T.toArray⟩ ++ ⟨#[61]⟩ ++ ⟨EV.toArray⟩ : ByteArray) = ⟨(T ++ [61] ++ EV).toArray⟩ := by rw [show (⟨#[61]⟩ : ByteArray) = ⟨[61].toArray⟩ from rfl, cat_l, cat_l]
        rw [e9] at g1
        have H6 := Hy (An g1 (HB3.out.2.2.2.1.trans ((hbW.mono HB3.out.2.2.2.1.size).trans g2)))
        clear g1 g2 g3 hx6 he0 he1 hb5 hbW bo0 bo1
        go_wp2
        refine ⟨⟨j + 1, Y' ++ (T ++ [61] ++ EV), by omega, by go_num, H6.out.1, H6.out.2, ?_, ?_⟩, by simp [intOf]; omega⟩
        ·have h8 := HB3.out.2.2.2.2.1; have := HAV.out; have := HEL.out; simp only [List.length_append, List.length_cons, List.length_nil] at h8 ⊢; omega
        ·have h9 := HB3.out.2.2.2.2.2
         rw [hEV] at h9
         rw [HO2.out.2.2.2.2.2, <- h9]
         simp only [List.append_assoc, List.cons_append, List.nil_append]
       ·go_wp2_with (at_builtin; refine wpList_pushc rfl (.tmp 36) (.tmp 37) 188 5 rfl w.heap.size 1 1 (.int .u8 0) Tryz.info5 Tryz.underlying188 rfl (by decide) [.int .u8 43] rfl ?c0 _ Y.length _ rfl _ rfl ?c3 HO2.out.1 ?c1 ?c2 HO2.out.2.1.size ?_)
        case c0 => first | rfl | (intro u hu; simp at hu; subst hu; rfl)
        case c1 => have := HO2.out.2.2.1; unfold maxLen; omega
        case c2 => have := HO2.out.2.2.1; omega
        case c3 => rfl
        intro v3 W3 g1 g2 g3
        have hb3 : W3.heap[bx]? = some (.cells #[.string ⟨T.toArray⟩, .string ⟨V.toArray⟩] 97 (0, 0)) := obj_chg HO2.out.2.2.2.1 g2 (fun hh => by have := HO2.out.2.2.2.2.1 bx hh.symm; omega)
        have hbB : Below w.heap.size w W3 := HO2.out.2.1.trans (g2.toBelow HO2.out.2.1.size (fun k _ hk => (HO2.out.2.2.2.2.1 k hk.symm).1))
        obtain ⟨a3, c3, rfl⟩ := ownsRow_slice g1
        have HB3 := Hy (An (show W3.ownsRow w.heap.size 5 1 (.slice a3 (Y.length + 1) c3) (Y ++ [43]).length (bc (Y ++ [43])) by rw [bc_append, List.length_append]; exact g1) (An hb3 (An (fun hh => by
         have h7 := obj_lt HO2.out.2.2.2.1
         rcases g3 with g3 | ⟨q, g3, g4⟩
         ·rw [g3] at hh; have := HO2.out.2.2.2.2.1 bx hh; omega
         ·rw [g3] at hh; injection hh with hh; omega : ¬ (Value.slice a3 (Y.length + 1) c3).ownBlock = some bx) (An hbB HI2.out))))
        clear g1 g2 g3 hb3 hbB
        have bo0 := obj_cell HB3.out.2.1 0 _ rfl
        have bo1 := obj_cell HB3.out.2.1 1 _ rfl
        have hz3 := obj_lt HB3.out.2.1
        have HE := Hy (fun w' => desc_any ⟨V.toArray⟩ (by show V.length <= _; have := HAV.out; omega) w')
        change Hid (∀ w', Calls Tryz.prog _ _ w' (StrPost (esL V) w')) at HE
        have HEL := Hy (show (esL V).length <= 768 from Nat.le_trans (es_len true V) (by have := HAV.out; omega))
        obtain ⟨EV, hEV⟩ : ∃ EV, esL V = EV := ⟨_, rfl⟩
        rw [hEV] at HE HEL
        have hl1 : ¬ (9223372036854775807 < T.length + 1) := by have := HAV.out; omega
        have hl2 : ¬ (9223372036854775807 < T.length + 1 + EV.length) := by have := HAV.out; have := HEL.out; omega
        have HRoom := Hy (show (Y ++ [43]).length + (⟨T.toArray⟩ ++ ⟨#[61]⟩ ++ ⟨EV.toArray⟩ : ByteArray).size <= 140737488355328 by
         rw [show (⟨#[61]⟩ : ByteArray) = ⟨[61].toArray⟩ from rfl, cat_l, cat_l]
         show (Y ++ [43]).length + ((T ++ [61]) ++ EV).length <= _
         have h8 := HB3.out.2.2.2.2.1
         have := HAV.out
         have := HEL.out
         simp only [List.length_append, List.length_cons, List.length_nil] at h8 ⊢
         omega)
        go_wp2
        go_region_held3 (fun w' => w'.cell? ⟨bx, 0, none⟩ = some (.string ⟨T.toArray⟩) /\ w'.cell? ⟨bx, 1, none⟩ = some (.string ⟨V.toArray⟩)) (first | exact ⟨he0, he1⟩ | exact ⟨bo0, bo1⟩ | go_keep)
         (first | (go_at_call 249; refine (HE.out _).mono ?_; rintro en w5 ⟨rfl, hb5⟩; have hbW : Below W3.heap.size W3 w5 := (Below.refl _ W3).drew.trans hb5; have he0 := (hbW.cell (p := ⟨bx, 0, none⟩) hz3).trans bo0; have he1 := (hbW.cell (p := ⟨bx, 1, none⟩) hz3).trans bo1) | (refine step_apps rfl (.tmp 39) (.tmp 46) 188 9 5 rfl w.heap.size Tryz.info5 Tryz.underlying188 Tryz.underlying9 _ (Y ++ [43]) rfl (ownsRow_below HB3.out.1 hbW) _ rfl HRoom.out (Nat.le_trans HB3.out.2.2.2.1.size hbW.size) ?_; intro v6 w6 g1 g2 g3; have hx6 := obj_chg (obj_below HB3.out.2.1 hbW hz3) g3 (fun hh => HB3.out.2.2.1 hh.symm); have he0 := obj_cell hx6 0 _ rfl; have he1 := obj_cell hx6 1 _ rfl))
        have e9 : (⟨T.toArray⟩ ++ ⟨#[61]⟩ ++ ⟨EV.toArray⟩ : ByteArray) = ⟨(T ++ [61] ++ EV).toArray⟩ := by rw [show (⟨#[61]⟩ : ByteArray) = ⟨[61].toArray⟩ from rfl, cat_l, cat_l]
        rw [e9] at g1
        have H6 := Hy (An g1 (HB3.out.2.2.2.1.trans ((hbW.mono HB3.out.2.2.2.1.size).trans g2)))
        clear g1 g2 g3 hx6 he0 he1 hb5 hbW bo0 bo1
        go_wp2
        refine ⟨⟨j + 1, (Y ++ [43]) ++ (T ++ [61] ++ EV), by omega, by go_num, H6.out.1, H6.out.2, ?_, ?_⟩, by simp [intOf]; omega⟩
        ·have h8 := HB3.out.2.2.2.2.1; have := HAV.out; have := HEL.out; simp only [List.length_append, List.length_cons, List.length_nil] at h8 ⊢; omega
        ·have h9 := HB3.out.2.2.2.2.2
         rw [hEV] at h9
         rw [HO2.out.2.2.2.2.2, <- h9]
         simp only [List.append_assoc, List.cons_append, List.nil_append]
      ·obtain rfl : j = r.length := by omega
       rw [show r.length = (r.map avL).length by simp, jn_end, List.nil_append] at hinv
       have H := Hy (An hown (An hb (An hY hinv)))
       clear hown hb hY hinv
       go_wp2
       refine ⟨⟨k + 1, Y, by omega, by go_num, H.out.1, H.out.2.1, ?_, ?_⟩, by simp [intOf]; omega⟩
       ·have := H.out.2.2.1; omega
       ·rw [HV.out.2.2]; exact H.out.2.2.2
    ·go_wp2_with (at_builtin; refine wpList_pushm rfl (.tmp 24) (.tmp 25) 188 5 rfl w.heap.size 1 1 (.int .u8 0) Tryz.info5 Tryz.underlying188 rfl (by decide) 1 [.int .u8 44] rfl ?c0 _ X.length _ rfl _ rfl ?c3 HX.out.1 ?c1 ?c2 HX.out.2.1.size ?_)
     case c0 => first | rfl | (intro u hu; simp at hu; subst hu; rfl)
     case c1 => have := HX.out.2.2.1; unfold maxLen; omega
     case c2 => have := HX.out.2.2.1; omega
     case c3 => rfl
     intro v' w' g1 g2
     obtain ⟨a3, c3, rfl⟩ := ownsRow_slice g1
     have HY := Hy (An (show w'.ownsRow w.heap.size 5 1 (.slice a3 (X.length + 1) c3) (X ++ [44]).length (bc (X ++ [44])) by rw [bc_append, List.length_append]; exact g1) (An (HX.out.2.1.trans g2) (An HX.out.2.2.2.1 HX.out.2.2.2.2)))
     clear g1 g2
     go_wp2
     go_loopw [5, 29] (fun o v wr => ∃ (j : Nat) (Y : List UInt8), j <= r.length /\ v = .int .i64 (j : Nat) /\ wr.ownsRow w.heap.size 5 1 o Y.length (bc Y) /\ Below w.heap.size w wr /\ Y.length <= 6700 * k + 1 + 834 * j /\
      Y ++ (jnL 43 (decide (j = 0)) ((r.map avL).drop j) ++ Z) = nmL d) (fun _ v _ => r.length - (intOf v).toNat)
     case atStart => exact ⟨0, _, by omega, rfl, HY.out.1, HY.out.2.1, by have := HY.out.2.2.1; omega, HY.out.2.2.2⟩
     case round =>
      obtain ⟨j, Y, hj, rfl, hown, hb, hY, hinv⟩ := hrel
      by_cases hlj : j < r.length
      ·obtain ⟨a2, c2, hv, _, hcl⟩ := avAt_below HV.out.1 hb
       injection hv with hv1 hv2 hv3
       subst hv1 hv3
       obtain ⟨g2, o2, rfl, hg2, e1, e2⟩ := hcl j hlj
       have hjl : (j : Int) < (r.length : Int) := by omega
       have hav := avOk_len (HV.out.2.1 _ (List.getElem_mem hlj))
       rw [jn_step 43 (r.map avL) j (by simpa using hlj)] at hinv
       simp only [List.getElem_map] at hinv
       obtain ⟨T, hT⟩ : ∃ T, r[j].1 = T := ⟨_, rfl⟩
       obtain ⟨V, hVV⟩ : ∃ V, r[j].2 = V := ⟨_, rfl⟩
       have hal : avL r[j] = T ++ 61 :: esL V := by rw [avL, hT, hVV]
       rw [hT] at e1 hav
       rw [hVV] at e2 hav
       rw [hal] at hinv
       obtain ⟨Z2, hZ2⟩ : ∃ Z2, jnL 43 (decide (j + 1 = 0)) ((r.map avL).drop (j + 1)) ++ Z = Z2 := ⟨_, rfl⟩
       have HAV := Hy (show T.length <= 64 /\ V.length <= 256 from ⟨hav.1, hav.2.2.1⟩)
       obtain ⟨bx, hbx⟩ : ∃ bx, wr.heap.size = bx := ⟨_, rfl⟩
       obtain ⟨W2, hW2⟩ : ∃ W2, wr.alloc (.cells #[.string ⟨T.toArray⟩, .string ⟨V.toArray⟩] 97) = W2 := ⟨_, rfl⟩
       have hbox : W2.heap[bx]? = some (.cells #[.string ⟨T.toArray⟩, .string ⟨V.toArray⟩] 97 (0, 0)) := by rw [<- hW2, <- hbx]; exact heap_alloc_new wr _
       have hY1 : ∃ Y' : List UInt8, (¬ 0 < j /\ Y' = Y \/ 0 < j /\ Y' = Y ++ [43]) /\ Y'.length <= 6700 * k + 1 + 834 * j + 1 /\ Y' ++ ((T ++ 61 :: esL V) ++ Z2) = nmL d := by
        by_cases hj0 : j = 0
        ·rw [if_pos hj0, List.nil_append, List.append_assoc, hZ2] at hinv
         exact ⟨Y, .inl ⟨by omega, rfl⟩, by omega, hinv⟩
        ·rw [if_neg hj0, List.append_assoc, List.append_assoc, hZ2, <- List.append_assoc] at hinv
         exact ⟨_, .inr ⟨by omega, rfl⟩, by simp; omega, hinv⟩
       obtain ⟨Y', hway, hY', hinv'⟩ := hY1
       have hlt2 := hown.lt
       have HO2 := Hy (An (hW2 ▸ hown.alloc _ : W2.ownsRow w.heap.size 5 1 _ Y.length (bc Y)) (An (hW2 ▸ hb.alloc hb.size _ : Below w.heap.size w W2) (An hY (An hbox (An hlt2 hZ2)))))
       have HI2 := Hy (An hY' hinv')
       clear hown hb hinv hY hY' hinv' hcl hav hal hT hVV hbox hlt2 hZ2
       rcases hway with ⟨hj0, rfl⟩ | ⟨hj0, rfl⟩
       ·have HB3 := Hy (An HO2.out.1 (An HO2.out.2.2.2.1 (An (fun hh => by have := HO2.out.2.2.2.2.1 bx hh; omega : ¬ _ = some bx) (An HO2.out.2.1 HI2.out))))
        have bo0 := obj_cell HB3.out.2.1 0 _ rfl
        have bo1 := obj_cell HB3.out.2.1 1 _ rfl
        have hz3 := obj_lt HB3.out.2.1
        have HE := Hy (fun w' => desc_any ⟨V.toArray⟩ (by show V.length <= _; have := HAV.out; omega) w')
        change Hid (∀ w', Calls Tryz.prog _ _ w' (StrPost (esL V) w')) at HE
        have HEL := Hy (show (esL V).length <= 768 from Nat.le_trans (es_len true V) (by have := HAV.out; omega))
        obtain ⟨EV, hEV⟩ : ∃ EV, esL V = EV := ⟨_, rfl⟩
        rw [hEV] at HE HEL
        have hl1 : ¬ (9223372036854775807 < T.length + 1) := by have := HAV.out; omega
        have hl2 : ¬ (9223372036854775807 < T.length + 1 + EV.length) := by have := HAV.out; have := HEL.out; omega
        have HRoom := Hy (show Y'.length + (⟨T.toArray⟩ ++ ⟨#[61]⟩ ++ ⟨EV.toArray⟩ : ByteArray).size <= 140737488355328 by
         rw [show (⟨#[61]⟩ : ByteArray) = ⟨[61].toArray⟩ from rfl, cat_l, cat_l]
         show Y'.length + ((T ++ [61]) ++ EV).length <= _
         have h8 := HB3.out.2.2.2.2.1
         have := HAV.out
         have := HEL.out
         simp only [List.length_append, List.length_cons, List.length_nil] at h8 ⊢
         omega)
        go_wp2
        go_region_held3 (fun w' => w'.cell? ⟨bx, 0, none⟩ = some (.string ⟨T.toArray⟩) /\ w'.cell? ⟨bx, 1, none⟩ = some (.string ⟨V.toArray⟩)) (first | exact ⟨he0, he1⟩ | exact ⟨bo0, bo1⟩ | go_keep)
         (first | (go_at_call 249; refine (HE.out _).mono ?_; rintro en w5 ⟨rfl, hb5⟩; have hbW : Below W2.heap.size W2 w5 := (Below.refl _ W2).drew.trans hb5; have he0 := (hbW.cell (p := ⟨bx, 0, none⟩) hz3).trans bo0; have he1 := (hbW.cell (p := ⟨bx, 1, none⟩) hz3).trans bo1) | (refine step_apps rfl (.tmp 39) (.tmp 46) 188 9 5 rfl w.heap.size Tryz.info5 Tryz.underlying188 Tryz.underlying9 _ Y' rfl (ownsRow_below HB3.out.1 hbW) _ rfl HRoom.out (Nat.le_trans HB3.out.2.2.2.1.size hbW.size) ?_; intro v6 w6 g1 g2 g3; have hx6 := obj_chg (obj_below HB3.out.2.1 hbW hz3) g3 (fun hh => HB3.out.2.2.1 hh.symm); have he0 := obj_cell hx6 0 _ rfl; have he1 := obj_cell hx6 1 _ rfl))
        have e9 : (⟨T.toArray⟩ ++ ⟨#[61]⟩ ++ ⟨EV.toArray⟩ : ByteArray) = ⟨(T ++ [61] ++ EV).toArray⟩ := by rw [show (⟨#[61]⟩ : ByteArray) = ⟨[61].toArray⟩ from rfl, cat_l, cat_l]
        rw [e9] at g1
        have H6 := Hy (An g1 (HB3.out.2.2.2.1.trans ((hbW.mono HB3.out.2.2.2.1.size).trans g2)))
        clear g1 g2 g3 hx6 he0 he1 hb5 hbW bo0 bo1
        go_wp2
        refine ⟨⟨j + 1, Y' ++ (T ++ [61] ++ EV), by omega, by go_num, H6.out.1, H6.out.2, ?_, ?_⟩, by simp [intOf]; omega⟩
        ·have h8 := HB3.out.2.2.2.2.1; have := HAV.out; have := HEL.out; simp only [List.length_append, List.length_cons, List.length_nil] at h8 ⊢; omega
        ·have h9 := HB3.out.2.2.2.2.2
         rw [hEV] at h9
         rw [HO2.out.2.2.2.2.2, <- h9]
         simp only [List.append_assoc, List.cons_append, List.nil_append]
       ·go_wp2_with (at_builtin; refine wpList_pushc rfl (.tmp 36) (.tmp 37) 188 5 rfl w.heap.size 1 1 (.int .u8 0) Tryz.info5 Tryz.underlying188 rfl (by decide) [.int .u8 43] rfl ?c0 _ Y.length _ rfl _ rfl ?c3 HO2.out.1 ?c1 ?c2 HO2.out.2.1.size ?_)
        case c0 => first | rfl | (intro u hu; simp at hu; subst hu; rfl)
        case c1 => have := HO2.out.2.2.1; unfold maxLen; omega
        case c2 => have := HO2.out.2.2.1; omega
        case c3 => rfl
        intro v3 W3 g1 g2 g3
        have hb3 : W3.heap[bx]? = some (.cells #[.string ⟨T.toArray⟩, .string ⟨V.toArray⟩] 97 (0, 0)) := obj_chg HO2.out.2.2.2.1 g2 (fun hh => by have := HO2.out.2.2.2.2.1 bx hh.symm; omega)
        have hbB : Below w.heap.size w W3 := HO2.out.2.1.trans (g2.toBelow HO2.out.2.1.size (fun k _ hk => (HO2.out.2.2.2.2.1 k hk.symm).1))
        obtain ⟨a3, c3, rfl⟩ := ownsRow_slice g1
        have HB3 := Hy (An (show W3.ownsRow w.heap.size 5 1 (.slice a3 (Y.length + 1) c3) (Y ++ [43]).length (bc (Y ++ [43])) by rw [bc_append, List.length_append]; exact g1) (An hb3 (An (fun hh => by
         have h7 := obj_lt HO2.out.2.2.2.1
         rcases g3 with g3 | ⟨q, g3, g4⟩
         ·rw [g3] at hh; have := HO2.out.2.2.2.2.1 bx hh; omega
         ·rw [g3] at hh; injection hh with hh; omega : ¬ (Value.slice a3 (Y.length + 1) c3).ownBlock = some bx) (An hbB HI2.out))))
        clear g1 g2 g3 hb3 hbB
        have bo0 := obj_cell HB3.out.2.1 0 _ rfl
        have bo1 := obj_cell HB3.out.2.1 1 _ rfl
        have hz3 := obj_lt HB3.out.2.1
        have HE := Hy (fun w' => desc_any ⟨V.toArray⟩ (by show V.length <= _; have := HAV.out; omega) w')
        change Hid (∀ w', Calls Tryz.prog _ _ w' (StrPost (esL V) w')) at HE
        have HEL := Hy (show (esL V).length <= 768 from Nat.le_trans (es_len true V) (by have := HAV.out; omega))
        obtain ⟨EV, hEV⟩ : ∃ EV, esL V = EV := ⟨_, rfl⟩
        rw [hEV] at HE HEL
        have hl1 : ¬ (9223372036854775807 < T.length + 1) := by have := HAV.out; omega
        have hl2 : ¬ (9223372036854775807 < T.length + 1 + EV.length) := by have := HAV.out; have := HEL.out; omega
        have HRoom := Hy (show (Y ++ [43]).length + (⟨T.toArray⟩ ++ ⟨#[61]⟩ ++ ⟨EV.toArray⟩ : ByteArray).size <= 140737488355328 by
         rw [show (⟨#[61]⟩ : ByteArray) = ⟨[61].toArray⟩ from rfl, cat_l, cat_l]
         show (Y ++ [43]).length + ((T ++ [61]) ++ EV).length <= _
         have h8 := HB3.out.2.2.2.2.1
         have := HAV.out
         have := HEL.out
         simp only [List.length_append, List.length_cons, List.length_nil] at h8 ⊢
         omega)
        go_wp2
        go_region_held3 (fun w' => w'.cell? ⟨bx, 0, none⟩ = some (.string ⟨T.toArray⟩) /\ w'.cell? ⟨bx, 1, none⟩ = some (.string ⟨V.toArray⟩)) (first | exact ⟨he0, he1⟩ | exact ⟨bo0, bo1⟩ | go_keep)
         (first | (go_at_call 249; refine (HE.out _).mono ?_; rintro en w5 ⟨rfl, hb5⟩; have hbW : Below W3.heap.size W3 w5 := (Below.refl _ W3).drew.trans hb5; have he0 := (hbW.cell (p := ⟨bx, 0, none⟩) hz3).trans bo0; have he1 := (hbW.cell (p := ⟨bx, 1, none⟩) hz3).trans bo1) | (refine step_apps rfl (.tmp 39) (.tmp 46) 188 9 5 rfl w.heap.size Tryz.info5 Tryz.underlying188 Tryz.underlying9 _ (Y ++ [43]) rfl (ownsRow_below HB3.out.1 hbW) _ rfl HRoom.out (Nat.le_trans HB3.out.2.2.2.1.size hbW.size) ?_; intro v6 w6 g1 g2 g3; have hx6 := obj_chg (obj_below HB3.out.2.1 hbW hz3) g3 (fun hh => HB3.out.2.2.1 hh.symm); have he0 := obj_cell hx6 0 _ rfl; have he1 := obj_cell hx6 1 _ rfl))
        have e9 : (⟨T.toArray⟩ ++ ⟨#[61]⟩ ++ ⟨EV.toArray⟩ : ByteArray) = ⟨(T ++ [61] ++ EV).toArray⟩ := by rw [show (⟨#[61]⟩ : ByteArray) = ⟨[61].toArray⟩ from rfl, cat_l, cat_l]
        rw [e9] at g1
        have H6 := Hy (An g1 (HB3.out.2.2.2.1.trans ((hbW.mono HB3.out.2.2.2.1.size).trans g2)))
        clear g1 g2 g3 hx6 he0 he1 hb5 hbW bo0 bo1
        go_wp2
        refine ⟨⟨j + 1, (Y ++ [43]) ++ (T ++ [61] ++ EV), by omega, by go_num, H6.out.1, H6.out.2, ?_, ?_⟩, by simp [intOf]; omega⟩
        ·have h8 := HB3.out.2.2.2.2.1; have := HAV.out; have := HEL.out; simp only [List.length_append, List.length_cons, List.length_nil] at h8 ⊢; omega
        ·have h9 := HB3.out.2.2.2.2.2
         rw [hEV] at h9
         rw [HO2.out.2.2.2.2.2, <- h9]
         simp only [List.append_assoc, List.cons_append, List.nil_append]
      ·obtain rfl : j = r.length := by omega
       rw [show r.length = (r.map avL).length by simp, jn_end, List.nil_append] at hinv
       have H := Hy (An hown (An hb (An hY hinv)))
       clear hown hb hY hinv
       go_wp2
       refine ⟨⟨k + 1, Y, by omega, by go_num, H.out.1, H.out.2.1, ?_, ?_⟩, by simp [intOf]; omega⟩
       ·have := H.out.2.2.1; omega
       ·rw [HV.out.2.2]; exact H.out.2.2.2
   ·obtain rfl : k = d.length := by omega
    rw [show d.length = (d.map ptL).length by simp, jn_end, List.append_nil] at hinv
    subst hinv
    have hc := conv_own' (P := Tryz.prog) (src := 188) (dst := 9) Tryz.underlying188 Tryz.underlying5 Tryz.underlying9 hown
    obtain ⟨oa, oc, rfl⟩ := ownsRow_slice hown
    have H := Hy hb
    clear hb hown
    by_cases h4 : 4096 < (nmL d).length
    ·have HR := Hy (HL.out h4)
     have hq : (4096 : Int) < ((nmL d).length : Int) := by omega
     clear h4
     go_wp2
     go_ret2
     exact putPost_mk (a := []) (n := 3) HR.out H.out
    ·have HR := Hy (HO.out h4)
     have hq : ((nmL d).length : Int) <= 4096 := by omega
     clear h4
     go_wp2
     go_ret2
     exact putPost_mk (n := 0) HR.out H.out
 ·have HR := Hy (puD_err d h0)
  obtain ⟨n, hn⟩ : ∃ n, ckD d = n := ⟨_, rfl⟩
  rw [hn] at HC HR h0
  have hq : ((n : Int) != 0) = true := by simp; omega
  clear h0 hn
  go_enter Tryz.func224, Tryz.ntmps224
  go_wp2_with fail
  refine HC.out.mono ?_
  rintro e w1 ⟨rfl, hb1⟩
  go_wp2
  go_ret2
  exact putPost_mk (a := []) HR.out hb1
theorem low_snoc (s : ByteArray) (k : Nat) (h : k < s.size) : lowL (s.data.toList.take (k + 1)) = lowL (s.data.toList.take k) ++ [low1 s[k]] := by
 rw [take_snoc s k h]; simp [lowL]
theorem rlow5_any (s : ByteArray) (hm : s.size <= 140737488355328) (w : World) :
  Calls Tryz.prog 81 #[.string s] w (StrPost (lowL s.data.toList) w) := by
 have hsz := len_list s
 go_enter Tryz.func81, Tryz.ntmps81
 go_wp2
 go_loopw [3, 4] (fun o v wr => ∃ k : Nat, k <= s.size /\ v = .int .i64 (k : Nat) /\ wr.ownsRow w.heap.size 5 1 o k (bc (lowL (s.data.toList.take k))) /\ Below w.heap.size w wr) (fun _ v _ => s.size - (intOf v).toNat)
 case atStart => exact ⟨0, by omega, rfl, World.ownsRow_nil _ _ _ _, Below.refl _ _⟩
 case round =>
  obtain ⟨k, hk, rfl, hown, hb⟩ := hrel
  by_cases hlt : k < s.size
  ·have hkl : (k : Int) < (s.size : Int) := by omega
   have h8 : s[k].toNat < 256 := s[k].toNat_lt
   have hlow := low1_toNat s[k]
   have HS := Hy (low_snoc s k hlt)
   have H := Hy (An hown hb)
   clear hown hb
   obtain ⟨x, hx⟩ : ∃ x, s[k] = x := ⟨_, rfl⟩
   rw [hx] at h8 hlow HS
   have hw : ((65 : Int) <= (x.toNat : Int) /\ (x.toNat : Int) <= 90 /\ ((low1 x).toNat : Int) = (x.toNat : Int) + 32) \/ ((x.toNat : Int) < 65 /\ (low1 x).toNat = x.toNat) \/ ((65 : Int) <= (x.toNat : Int) /\ (90 : Int) < (x.toNat : Int) /\ (low1 x).toNat = x.toNat) := by
    by_cases hu : 65 <= x.toNat /\ x.toNat <= 90
    ·rw [if_pos hu] at hlow; exact .inl ⟨by omega, by omega, by omega⟩
    ·rw [if_neg hu] at hlow; omega
   clear hlow
   rcases hw with ⟨q1, q2, q3⟩ | ⟨q1, q3⟩ | ⟨q1, q2, q3⟩
   ·have HQ := Hy q3
    clear q3
    go_wp2_with (at_builtin; refine wpList_pushm rfl (.tmp 23) (.tmp 25) 188 5 rfl w.heap.size 1 1 (.int .u8 0) Tryz.info5 Tryz.underlying188 rfl (by decide) 1 [.int .u8 ((x.toNat : Int) + 32)] rfl ?c0 _ k _ rfl _ rfl ?c3 H.out.1 ?c1 ?c2 H.out.2.size ?_)
    case c0 => first | rfl | (intro u hu; simp at hu; subst hu; rfl)
    case c1 => unfold maxLen; omega
    case c2 => omega
    case c3 => rfl
    intro v' w' g1 g2
    go_wp2
    refine ⟨⟨k + 1, by omega, by go_num, ?_, H.out.2.trans g2⟩, by simp [intOf]; omega⟩
    rw [HS.out, bc_append]
    rw [<- HQ.out] at g1; exact g1
   all_goals
    have HQ := Hy q3
    clear q3
    go_wp2_with (at_builtin; refine wpList_pushm rfl (.tmp 23) (.tmp 25) 188 5 rfl w.heap.size 1 1 (.int .u8 0) Tryz.info5 Tryz.underlying188 rfl (by decide) 1 [.int .u8 (x.toNat : Int)] rfl ?c0 _ k _ rfl _ rfl ?c3 H.out.1 ?c1 ?c2 H.out.2.size ?_)
    case c0 => first | rfl | (intro u hu; simp at hu; subst hu; rfl)
    case c1 => unfold maxLen; omega
    case c2 => omega
    case c3 => rfl
    intro v' w' g1 g2
    go_wp2
    refine ⟨⟨k + 1, by omega, by go_num, ?_, H.out.2.trans g2⟩, by simp [intOf]; omega⟩
    rw [HS.out, bc_append]
    rw [<- HQ.out] at g1; exact g1
  ·obtain rfl : k = s.size := by omega
   rw [List.take_of_length_le (by omega)] at hown
   have hc := conv_own' (P := Tryz.prog) (src := 188) (dst := 9) Tryz.underlying188 Tryz.underlying5 Tryz.underlying9 hown
   have H := Hy hb
   clear hb hown
   go_wp2
   go_ret
   exact ⟨rfl, H.out⟩
theorem tw_step (r : List Av) (T : List UInt8) (j k : Nat) (h : j < k) (hk : k <= r.length) : (r.take (j + 1)).any (fun q => lowL q.1 == lowL T) = ((r.take j).any (fun q => lowL q.1 == lowL T) || (lowL (r[j]'(by omega)).1 == lowL T)) := by
 rw [any_take (fun q : Av => lowL q.1 == lowL T) r j (by omega)]
theorem any_more {r : List Av} {p : Av -> Bool} {j k : Nat} (h : j <= k) (h1 : (r.take j).any p = true) : (r.take k).any p = true := by
 rw [List.any_eq_true] at h1 ⊢
 obtain ⟨x, hx, hp⟩ := h1
 refine ⟨x, ?_, hp⟩
 have : r.take j = (r.take k).take j := by rw [List.take_take, Nat.min_eq_left h]
 rw [this] at hx
 exact List.mem_of_mem_take hx
theorem rcheck6_any (v : Value) (d : List (List Av)) (hs : ∀ r ∈ d, ∀ p ∈ r, p.1.length <= 140737488355328) (w : World) (h : DnAt w v d) :
  Calls Tryz.prog 90 #[v] w (NumPost (ckD d) w) := by
 have HA := Hy h
 obtain ⟨a, c, hv, hcap, _⟩ := id h
 subst hv
 clear h
 by_cases h0 : 32 < d.length
 ·have H := Hy (ckD_long d h0)
  have h1 : (32 : Int) < (d.length : Int) := by omega
  clear h0
  go_enter Tryz.func90, Tryz.ntmps90
  go_wp2
  go_ret
  exact numPost_mk H.out (Below.refl _ _)
 have h1 : (d.length : Int) <= 32 := by omega
 have HB := Hy (ckD_bad d (by omega))
 have HG := Hy (ckD_good d (by omega))
 have HS := Hy hs
 clear h0 hs
 go_enter Tryz.func90, Tryz.ntmps90
 go_wp2
 go_loopw [3] (fun v wr => ∃ i : Nat, i <= d.length /\ v = .int .i64 (i : Nat) /\ Below w.heap.size w wr /\ (d.take i).all prL = true) (fun v _ => d.length - (intOf v).toNat)
 case atStart => exact ⟨0, by omega, rfl, Below.refl _ _, rfl⟩
 case round =>
  obtain ⟨i, hi, rfl, hb, hall⟩ := hrel
  by_cases hlt : i < d.length
  ·obtain ⟨a', c', hv, _, hcells⟩ := HA.out
   injection hv with hv1 hv2 hv3
   subst hv1 hv3
   obtain ⟨g, o, u, rfl, hg, c1w, hav⟩ := hcells i hlt
   have c1 := (hb.cell (p := ⟨g, _, none⟩) hg).trans c1w
   have hil : (i : Int) < (d.length : Int) := by omega
   have HBi := Hy (HB.out i hlt)
   have HT := Hy (fun h => all_take prL d i hlt hall h)
   have HSr := Hy (HS.out _ (List.getElem_mem hlt))
   obtain ⟨r, hr⟩ : ∃ r, d[i] = r := ⟨_, rfl⟩
   rw [hr] at hav HBi HT HSr
   obtain ⟨ua, uc, hu, hucap, _⟩ := id hav
   subst hu
   have HV := Hy hav
   have HC1 := Hy (An hg c1w)
   have HH := Hy hb
   clear hcells hav hall hr c1w hb
   by_cases hr0 : r.length < 1 \/ 8 < r.length
   ·have H := Hy (HBi.out (show prL r = false by simp only [prL, Bool.and_eq_false_iff, decide_eq_false_iff_not]; omega))
    have hr0' : (r.length : Int) < 1 \/ (1 <= (r.length : Int) /\ (8 : Int) < (r.length : Int)) := by omega
    clear hr0
    rcases hr0' with q1 | ⟨q1, q2⟩
    all_goals
     go_wp2
     go_ret
     exact numPost_mk H.out HH.out
   ·have q1 : (1 : Int) <= (r.length : Int) := by omega
    have q2 : (r.length : Int) <= 8 := by omega
    have HP := Hy (show prL r = pgL [] r by simp only [prL, Bool.and_eq_true, decide_eq_true_eq]; rw [show decide (1 <= r.length) = true by simp; omega, show decide (r.length <= 8) = true by simp; omega]; rfl)
    clear hr0
    go_wp2
    go_loopw [4] (fun v wr => ∃ k : Nat, k <= r.length /\ v = .int .i64 (k : Nat) /\ Below w.heap.size w wr /\ pgL (r.take k) (r.drop k) = prL r) (fun v _ => r.length - (intOf v).toNat)
    case atStart => exact ⟨0, by omega, rfl, HH.out, by rw [HP.out]; rfl⟩
    case round =>
     obtain ⟨k, hk, rfl, hb, hinv⟩ := hrel
     have c1 := (hb.cell (p := ⟨g, _, none⟩) HC1.out.1).trans HC1.out.2
     by_cases hlk : k < r.length
     ·have hkl : (k : Int) < (r.length : Int) := by omega
      obtain ⟨a2, c2, hv, _, hcl⟩ := HV.out
      injection hv with hv1 hv2 hv3
      subst hv1 hv3
      obtain ⟨g2, o2, rfl, hg2, e1w, e2w⟩ := hcl k hlk
      have e1 := (hb.cell (p := ⟨g2, _, none⟩) hg2).trans e1w
      have e2 := (hb.cell (p := ⟨g2, _, none⟩) hg2).trans e2w
      rw [pg_step r k hlk] at hinv
      have hTs := HSr.out _ (List.getElem_mem hlk)
      obtain ⟨T, hT⟩ : ∃ T, r[k].1 = T := ⟨_, rfl⟩
      obtain ⟨V, hVV⟩ : ∃ V, r[k].2 = V := ⟨_, rfl⟩
      have hw := avOk_ways r[k]
      have htw : twL (r.take k) r[k] = (r.take k).any (fun q => lowL q.1 == lowL T) := by rw [twL, hT]
      rw [hT, hVV] at hw
      rw [hT] at e1 e1w hTs
      rw [hVV] at e2 e2w
      have HT1 := Hy (rtyped_any ⟨T.toArray⟩ (show (⟨T.toArray⟩ : ByteArray).size <= _ from hTs))
      change Hid (∀ w, Calls Tryz.prog _ _ w (PureB (tyL T) w)) at HT1
      obtain ⟨bx, hbx⟩ : ∃ bx, wr.heap.size = bx := ⟨_, rfl⟩
      obtain ⟨W2, hW2⟩ : ∃ W2, wr.alloc (.cells #[.string ⟨T.toArray⟩, .string ⟨V.toArray⟩] 97) = W2 := ⟨_, rfl⟩
      have hbox : W2.heap[bx]? = some (.cells #[.string ⟨T.toArray⟩, .string ⟨V.toArray⟩] 97 (0, 0)) := by rw [<- hW2, <- hbx]; exact heap_alloc_new wr _
      have hbW : Below w.heap.size w W2 := by rw [<- hW2]; exact hb.alloc hb.size _
      have d1 := obj_cell hbox 0 _ rfl
      have d2 := obj_cell hbox 1 _ rfl
      have d3 := (hbW.cell (p := ⟨g, _, none⟩) HC1.out.1).trans HC1.out.2
      rcases hw with ⟨hok, hw⟩ | ⟨hok, hw1, hw2, hw3⟩
      ·rw [hok, Bool.false_and, Bool.false_and] at hinv
       have H := Hy (An hbW (HBi.out hinv.symm))
       clear hinv hb hcl hok htw hT hVV hbox hbW e1w e2w hTs
       rcases hw with hw | ⟨hw, hV0⟩ | ⟨hw, hw2, hw3⟩
       ·rw [hw] at HT1
        go_wp2_with fail
        refine (HT1.out _).mono ?_
        rintro e w2 ⟨rfl, hw2⟩
        obtain rfl := hw2.symm
        go_wp2
        go_ret
        exact numPost_mk H.out.2 H.out.1
       ·rw [hw] at HT1
        have hem : (V.length : Int) < 1 := by rw [hV0]; decide
        clear hV0
        go_wp2_with fail
        refine (HT1.out _).mono ?_
        rintro e w2 ⟨rfl, hw2⟩
        obtain rfl := hw2.symm
        go_wp2
        go_ret
        exact numPost_mk H.out.2 H.out.1
       ·rw [hw] at HT1
        have hgt : (256 : Int) < (V.length : Int) := by omega
        clear hw2 hw3
        go_wp2_with fail
        refine (HT1.out _).mono ?_
        rintro e w2 ⟨rfl, hw2⟩
        obtain rfl := hw2.symm
        go_wp2
        go_ret
        exact numPost_mk H.out.2 H.out.1
      ·rw [hok, Bool.true_and] at hinv
       rw [hw1] at HT1
       have hge : (1 : Int) <= (V.length : Int) := by have := List.length_pos_iff.2 hw2; omega
       have hgt : (V.length : Int) <= 256 := by omega
       have HI := Hy (An hinv htw)
       have HW2 := Hy (An hbW (An hbox (avAt_below HV.out hbW)))
       have HTs := Hy hTs
       clear hinv htw hb hcl hok hT hVV hbox hbW e1w e2w hTs hw1 hw2 hw3
       go_wp2_with fail
       refine (HT1.out _).mono ?_
       rintro e w2 ⟨rfl, hw2⟩
       obtain rfl := hw2.symm
       go_wp2
       go_loopw [6] (fun v wr => ∃ j : Nat, j <= k /\ v = .int .i64 (j : Nat) /\ Below W2.heap.size W2 wr /\ (r.take j).any (fun q => lowL q.1 == lowL T) = false) (fun v _ => k - (intOf v).toNat)
       case atStart => exact ⟨0, by omega, rfl, Below.refl _ _, rfl⟩
       case round =>
        obtain ⟨j, hj, rfl, hb, hany⟩ := hrel
        have z1 := obj_lt HW2.out.2.1
        have f1 := (hb.cell (p := ⟨bx, 0, none⟩) z1).trans (obj_cell HW2.out.2.1 0 _ rfl)
        have f3 := (hb.cell (p := ⟨g, _, none⟩) (Nat.lt_of_lt_of_le HC1.out.1 HW2.out.1.size)).trans d3
        by_cases hlj : j < k
        ·obtain ⟨a3, c3, hv, _, hcl⟩ := HW2.out.2.2
         injection hv with hv1 hv2 hv3
         subst hv1 hv3
         obtain ⟨g3, o3, hv1', hg3, e3, _⟩ := hcl j (by omega)
         injection hv1' with hv1'
         injection hv1' with hv4 hv5 _
         subst hv4 hv5
         have hjr : (j : Int) < (r.length : Int) := by omega
         have hjk : (j : Int) < (k : Int) := by omega
         have hst := tw_step r T j k hlj (by omega)
         rw [hany, Bool.false_or] at hst
         have hUs := HSr.out _ (List.getElem_mem (show j < r.length by omega))
         obtain ⟨U, hU⟩ : ∃ U, (r[j]'(by omega)).1 = U := ⟨_, rfl⟩
         rw [hU] at e3 hst hUs
         have f2 := (hb.cell (p := ⟨g2, _, none⟩) hg3).trans e3
         obtain ⟨q, hq⟩ : ∃ q, (lowL U == lowL T) = q := ⟨_, rfl⟩
         rw [hq] at hst
         have zg := Nat.lt_of_lt_of_le (Nat.lt_of_lt_of_le HC1.out.1 HW2.out.1.size) hb.size
         have zg2 := Nat.lt_of_lt_of_le hg3 hb.size
         have zb := Nat.lt_of_lt_of_le z1 hb.size
         have HL1 := Hy (rlow5_any ⟨U.toArray⟩ (show (⟨U.toArray⟩ : ByteArray).size <= _ from hUs))
         change Hid (∀ w, Calls Tryz.prog _ _ w (StrPost (lowL U) w)) at HL1
         have HL2 := Hy (rlow5_any ⟨T.toArray⟩ (show (⟨T.toArray⟩ : ByteArray).size <= _ from HTs.out))
         change Hid (∀ w, Calls Tryz.prog _ _ w (StrPost (lowL T) w)) at HL2
         have H := Hy (An hb hst)
         clear hb hany hst hcl hU hUs e3
         go_wp2
         go_region_held3 (fun w' => w'.cell? ⟨g, o + i, none⟩ = some (.slice (some ⟨g2, o2, none⟩) r.length uc) /\ w'.cell? ⟨g2, o2 + j * 2, none⟩ = some (.string ⟨U.toArray⟩) /\ w'.cell? ⟨bx, 0, none⟩ = some (.string ⟨T.toArray⟩)) (first | exact ⟨he0, he1, he2⟩ | exact ⟨f3, f2, f1⟩ | go_keep)
          (first | (go_at_call_of 81 (Value.string ⟨U.toArray⟩); refine (HL1.out _).mono ?_; rintro en w5 ⟨rfl, hb5⟩; have hbV : Below wr.heap.size wr w5 := (by first | exact hbV.trans (hb5.mono hbV.size) | exact (Below.refl _ wr).drew.trans hb5); have he0 := (hbV.cell (p := ⟨g, _, none⟩) zg).trans f3; have he1 := (hbV.cell (p := ⟨g2, _, none⟩) zg2).trans f2; have he2 := (hbV.cell (p := ⟨bx, _, none⟩) zb).trans f1) | (go_at_call_of 81 (Value.string ⟨T.toArray⟩); refine (HL2.out _).mono ?_; rintro en w5 ⟨rfl, hb5⟩; have hbV : Below wr.heap.size wr w5 := (by first | exact hbV.trans (hb5.mono hbV.size) | exact (Below.refl _ wr).drew.trans hb5); have he0 := (hbV.cell (p := ⟨g, _, none⟩) zg).trans f3; have he1 := (hbV.cell (p := ⟨g2, _, none⟩) zg2).trans f2; have he2 := (hbV.cell (p := ⟨bx, _, none⟩) zb).trans f1))
         have H6 := Hy (H.out.1.trans (hbV.mono H.out.1.size))
         clear hbV hb5
         cases q
         ·go_wp2
          refine ⟨⟨j + 1, by omega, by go_num, H6.out, H.out.2⟩, by simp [intOf]; omega⟩
         ·go_wp2
          go_ret
          refine numPost_mk (HBi.out ?_).symm.symm (HW2.out.1.trans (H6.out.mono HW2.out.1.size))
          have h9 := HI.out.1
          rw [HI.out.2, any_more (k := k) (by omega) H.out.2] at h9
          simpa using h9.symm
        ·obtain rfl : j = k := by omega
         have h9 := HI.out.1
         rw [HI.out.2, hany] at h9
         have H := Hy (An (HW2.out.1.trans (hb.mono HW2.out.1.size)) (show pgL (r.take (j + 1)) (r.drop (j + 1)) = prL r by simpa using h9))
         clear hb hany h9
         go_wp2
         refine ⟨⟨j + 1, by omega, by go_num, H.out.1, H.out.2⟩, by simp [intOf]; omega⟩
     ·obtain rfl : k = r.length := by omega
      rw [pg_end] at hinv
      have H := Hy (An hb (HT.out hinv.symm))
      clear hb hinv
      go_wp2
      refine ⟨⟨i + 1, by omega, by go_num, H.out.1, H.out.2⟩, by simp [intOf]; omega⟩
  ·obtain rfl : i = d.length := by omega
   rw [List.take_length] at hall
   have H := Hy (An hb (HG.out hall))
   clear hb hall
   go_wp2
   go_ret
   exact numPost_mk H.out.2 H.out.1
theorem jn_len (sep : UInt8) (m : Nat) (l : List (List UInt8)) (h : ∀ x ∈ l, x.length <= m) (f : Bool) : (jnL sep f l).length <= (m + 1) * l.length := by
 induction l generalizing f with
 | nil => simp [jnL]
 | cons x r ih =>
  have h1 := h x (by simp)
  have h2 := ih (fun y hy => h y (by simp [hy])) false
  rw [jnL, List.length_append, List.length_append, List.length_cons, Nat.mul_add]
  have : (if f = true then ([] : List UInt8) else [sep]).length <= 1 := by split <;> simp
  omega
theorem pt_len {r : List Av} (h : prL r = true) : (ptL r).length <= 6672 := by
 obtain ⟨h1, h2, h3⟩ := prL_facts h
 have := jn_len 43 833 (r.map avL) (fun x hx => by obtain ⟨p, hp, rfl⟩ := List.mem_map.1 hx; exact av_len (h3 p hp)) true
 rw [List.length_map] at this
 rw [ptL]
 have : 834 * r.length <= 834 * 8 := Nat.mul_le_mul_left _ h2
 omega
theorem rpart6_any (v : Value) (r : List Av) (hr : r.length <= 8) (hok : ∀ p ∈ r, avOk p = true) (w : World) (h : AvAt w v r) :
  Calls Tryz.prog 142 #[v] w (StrPost (ptL r) w) := by
 have HV := Hy (An h hok)
 obtain ⟨a, c, hv, hcap, _⟩ := id h
 subst hv
 have hr8 : (r.length : Int) <= 8 := by omega
 clear h hok
 go_enter Tryz.func142, Tryz.ntmps142
 go_wp2
 go_loopw [3, 4] (fun s v wr => ∃ (k : Nat) (X : List UInt8), k <= r.length /\ v = .int .i64 (k : Nat) /\ s = .string ⟨X.toArray⟩ /\ Below w.heap.size w wr /\ X.length <= 834 * k /\ X ++ jnL 43 (decide (k = 0)) ((r.map avL).drop k) = ptL r) (fun _ v _ => r.length - (intOf v).toNat)
 case atStart => exact ⟨0, [], by omega, rfl, rfl, Below.refl _ _, by simp, rfl⟩
 case round =>
  obtain ⟨k, X, hk, rfl, rfl, hb, hX, hinv⟩ := hrel
  by_cases hlk : k < r.length
  ·have hkl : (k : Int) < (r.length : Int) := by omega
   obtain ⟨a2, c2, hv, _, hcl⟩ := HV.out.1
   injection hv with hv1 hv2 hv3
   subst hv1 hv3
   obtain ⟨g, o, rfl, hg, e1w, e2w⟩ := hcl k hlk
   have e1 := (hb.cell (p := ⟨g, _, none⟩) hg).trans e1w
   have e2 := (hb.cell (p := ⟨g, _, none⟩) hg).trans e2w
   have hav := avOk_len (HV.out.2 _ (List.getElem_mem hlk))
   rw [jn_step 43 (r.map avL) k (by simpa using hlk)] at hinv
   simp only [List.getElem_map] at hinv
   obtain ⟨T, hT⟩ : ∃ T, r[k].1 = T := ⟨_, rfl⟩
   obtain ⟨V, hVV⟩ : ∃ V, r[k].2 = V := ⟨_, rfl⟩
   obtain ⟨EV, hEV⟩ : ∃ EV, esL V = EV := ⟨_, rfl⟩
   have hal : avL r[k] = T ++ 61 :: EV := by rw [avL, hT, hVV, hEV]
   rw [hT] at e1 hav
   rw [hVV] at e2 hav
   rw [hal] at hinv
   have HE := Hy (fun w' => resc_any ⟨V.toArray⟩ (by show V.length <= _; have := hav.2.2.1; omega) w')
   change Hid (∀ w', Calls Tryz.prog _ _ w' (StrPost (esL V) w')) at HE
   rw [hEV] at HE
   have hTl := hav.1
   have hEl : EV.length <= 768 := by rw [<- hEV]; exact Nat.le_trans (es_len true V) (by have := hav.2.2.1; omega)
   have hX1 : ∃ X' : List UInt8, (¬ 0 < k /\ X' = X \/ 0 < k /\ X' = X ++ [43]) /\ X'.length <= 834 * k + 1 /\ (X' ++ (T ++ [61] ++ EV)) ++ jnL 43 (decide (k + 1 = 0)) ((r.map avL).drop (k + 1)) = ptL r := by
    by_cases hk0 : k = 0
    ·rw [if_pos hk0, List.nil_append] at hinv
     exact ⟨X, .inl ⟨by omega, rfl⟩, by omega, by rw [<- hinv]; simp⟩
    ·rw [if_neg hk0] at hinv
     exact ⟨_, .inr ⟨by omega, rfl⟩, by simp; omega, by rw [<- hinv]; simp⟩
   obtain ⟨X', hway, hX', hinv'⟩ := hX1
   have H := Hy (An hb (An hX' hinv'))
   have zg := Nat.lt_of_lt_of_le hg hb.size
   have hl0 : ¬ (9223372036854775807 < X.length + 1) := by omega
   clear hb hinv hX hX' hinv' hcl hav hal hT hVV hEV e1w e2w
   rcases hway with ⟨hk0, rfl⟩ | ⟨hk0, rfl⟩
   ·have hl1 : ¬ (9223372036854775807 < X'.length + T.length) := by have := H.out.2.1; omega
    have hl2 : ¬ (9223372036854775807 < X'.length + T.length + 1) := by have := H.out.2.1; omega
    have hl3 : ¬ (9223372036854775807 < X'.length + T.length + 1 + EV.length) := by have := H.out.2.1; omega
    go_wp2
    go_region_held3 (fun w' => w'.cell? ⟨g, o + k * 2, none⟩ = some (.string ⟨T.toArray⟩) /\ w'.cell? ⟨g, o + k * 2 + 1, none⟩ = some (.string ⟨V.toArray⟩)) (first | exact ⟨he0, he1⟩ | exact ⟨e1, e2⟩ | go_keep)
     (first | (go_at_call 186; refine (HE.out _).mono ?_; rintro en w5 ⟨rfl, hb5⟩; have hbV : Below wr.heap.size wr w5 := (Below.refl _ wr).drew.trans hb5; have he0 := (hbV.cell (p := ⟨g, _, none⟩) zg).trans e1; have he1 := (hbV.cell (p := ⟨g, _, none⟩) zg).trans e2))
    have H6 := Hy (H.out.1.trans (hbV.mono H.out.1.size))
    clear hbV hb5
    go_wp2
    refine ⟨⟨k + 1, X' ++ (T ++ [61] ++ EV), by omega, by go_num, ?_, H6.out, ?_, H.out.2.2⟩, by simp [intOf]; omega⟩
    ·rw [show (⟨#[61]⟩ : ByteArray) = ⟨[61].toArray⟩ from rfl, cat_l, cat_l, cat_l]; simp
    ·have := H.out.2.1; simp; omega
   ·have hl1 : ¬ (9223372036854775807 < X.length + 1 + T.length) := by have := H.out.2.1; simp at this; omega
    have hl2 : ¬ (9223372036854775807 < X.length + 1 + T.length + 1) := by have := H.out.2.1; simp at this; omega
    have hl3 : ¬ (9223372036854775807 < X.length + 1 + T.length + 1 + EV.length) := by have := H.out.2.1; simp at this; omega
    go_wp2
    go_region_held3 (fun w' => w'.cell? ⟨g, o + k * 2, none⟩ = some (.string ⟨T.toArray⟩) /\ w'.cell? ⟨g, o + k * 2 + 1, none⟩ = some (.string ⟨V.toArray⟩)) (first | exact ⟨he0, he1⟩ | exact ⟨e1, e2⟩ | go_keep)
     (first | (go_at_call 186; refine (HE.out _).mono ?_; rintro en w5 ⟨rfl, hb5⟩; have hbV : Below wr.heap.size wr w5 := (Below.refl _ wr).drew.trans hb5; have he0 := (hbV.cell (p := ⟨g, _, none⟩) zg).trans e1; have he1 := (hbV.cell (p := ⟨g, _, none⟩) zg).trans e2))
    have H6 := Hy (H.out.1.trans (hbV.mono H.out.1.size))
    clear hbV hb5
    go_wp2
    refine ⟨⟨k + 1, (X ++ [43]) ++ (T ++ [61] ++ EV), by omega, by go_num, ?_, H6.out, ?_, H.out.2.2⟩, by simp [intOf]; omega⟩
    ·rw [show (⟨#[61]⟩ : ByteArray) = ⟨[61].toArray⟩ from rfl, show (⟨#[43]⟩ : ByteArray) = ⟨[43].toArray⟩ from rfl, cat_l, cat_l, cat_l, cat_l]; simp
    ·have := H.out.2.1; simp at this ⊢; omega
  ·obtain rfl : k = r.length := by omega
   rw [show r.length = (r.map avL).length by simp, jn_end, List.append_nil] at hinv
   subst hinv
   have H := Hy hb
   clear hb
   go_wp2
   go_ret
   exact ⟨rfl, H.out⟩
theorem rput6_any (v : Value) (d : List (List Av)) (hs : ∀ r ∈ d, ∀ p ∈ r, p.1.length <= 140737488355328) (w : World) (h : DnAt w v d) :
  Calls Tryz.prog 185 #[v] w (PutPost (puD d) w) := by
 have HC := Hy (rcheck6_any v d hs w h)
 have HA := Hy h
 obtain ⟨a, c, hv, hcap, _⟩ := id h
 subst hv
 clear h hs
 by_cases h0 : ckD d = 0
 ·rw [h0] at HC
  obtain ⟨hd1, hd2⟩ := ckD_facts h0
  have HL := Hy (puD_long d h0)
  have HO := Hy (puD_ok d h0)
  have hd3 : (d.length : Int) <= 32 := by omega
  clear h0
  go_enter Tryz.func185, Tryz.ntmps185
  go_wp2_with fail
  refine HC.out.mono ?_
  rintro e w1 ⟨rfl, hb1⟩
  go_wp2
  go_loopw [5, 6] (fun s v wr => ∃ (k : Nat) (X : List UInt8), k <= d.length /\ v = .int .i64 (k : Nat) /\ s = .string ⟨X.toArray⟩ /\ Below w.heap.size w wr /\ X.length <= 6700 * k /\ X ++ jnL 44 (decide (k = 0)) ((d.map ptL).drop k) = nmL d) (fun _ v _ => d.length - (intOf v).toNat)
  case atStart => exact ⟨0, [], by omega, rfl, rfl, hb1, by simp, rfl⟩
  case round =>
   obtain ⟨k, X, hk, rfl, rfl, hb, hX, hinv⟩ := hrel
   by_cases hlt : k < d.length
   ·obtain ⟨a', c', hv, _, hcells⟩ := HA.out
    injection hv with hv1 hv2 hv3
    subst hv1 hv3
    obtain ⟨g, o, u, rfl, hg, c1w, hav⟩ := hcells k hlt
    have c1 := (hb.cell (p := ⟨g, _, none⟩) hg).trans c1w
    have hkl : (k : Int) < (d.length : Int) := by omega
    have hpr := hd2 _ (List.getElem_mem hlt)
    obtain ⟨hr1, hr2, hr3⟩ := prL_facts hpr
    have hpl := pt_len hpr
    have HP := Hy (fun w' (hb' : Below w.heap.size w w') => rpart6_any u d[k] hr2 hr3 w' (avAt_below hav hb'))
    rw [jn_step 44 (d.map ptL) k (by simpa using hlt)] at hinv
    simp only [List.getElem_map] at hinv
    obtain ⟨P, hP⟩ : ∃ P, ptL d[k] = P := ⟨_, rfl⟩
    rw [hP] at HP hinv hpl
    obtain ⟨ua, uc, hu, _, _⟩ := hav
    subst hu
    have hl0 : ¬ (9223372036854775807 < X.length + 1) := by omega
    have hl1 : ¬ (9223372036854775807 < X.length + P.length) := by omega
    have hl2 : ¬ (9223372036854775807 < X.length + 1 + P.length) := by omega
    have hway : (¬ 0 < k /\ (X ++ P) ++ jnL 44 (decide (k + 1 = 0)) ((d.map ptL).drop (k + 1)) = nmL d) \/ (0 < k /\ (X ++ [44] ++ P) ++ jnL 44 (decide (k + 1 = 0)) ((d.map ptL).drop (k + 1)) = nmL d) := by
     by_cases hk0 : k = 0
     ·rw [if_pos hk0, List.nil_append, <- List.append_assoc] at hinv
      exact .inl ⟨by omega, hinv⟩
     ·rw [if_neg hk0, <- List.append_assoc, <- List.append_assoc] at hinv
      exact .inr ⟨by omega, hinv⟩
    have H := Hy (An hb (An hX hpl))
    clear hb hinv hX hcells hP hr1 hr2 hr3 hpr hpl c1w
    rcases hway with ⟨hk0, hi⟩ | ⟨hk0, hi⟩
    ·have HI := Hy hi
     clear hi
     go_wp2_with fail
     refine (HP.out _ H.out.1).mono ?_
     rintro e w2 ⟨rfl, hb2⟩
     have H2 := Hy (H.out.1.trans (hb2.mono H.out.1.size))
     clear hb2
     go_wp2
     refine ⟨⟨k + 1, X ++ P, by omega, by go_num, by rw [cat_l], H2.out, ?_, HI.out⟩, by simp [intOf]; omega⟩
     have := H.out.2; simp; omega
    ·have HI := Hy hi
     clear hi
     go_wp2_with fail
     refine (HP.out _ H.out.1).mono ?_
     rintro e w2 ⟨rfl, hb2⟩
     have H2 := Hy (H.out.1.trans (hb2.mono H.out.1.size))
     clear hb2
     go_wp2
     refine ⟨⟨k + 1, X ++ [44] ++ P, by omega, by go_num, by rw [show (⟨#[44]⟩ : ByteArray) = ⟨[44].toArray⟩ from rfl, cat_l, cat_l], H2.out, ?_, HI.out⟩, by simp [intOf]; omega⟩
     have := H.out.2; simp; omega
   ·obtain rfl : k = d.length := by omega
    rw [show d.length = (d.map ptL).length by simp, jn_end, List.append_nil] at hinv
    subst hinv
    have H := Hy hb
    clear hb
    by_cases h4 : 4096 < (nmL d).length
    ·have HR := Hy (HL.out h4)
     have hq : (4096 : Int) < ((nmL d).length : Int) := by omega
     clear h4
     go_wp2
     go_ret2
     exact putPost_mk (a := []) (n := 3) HR.out H.out
    ·have HR := Hy (HO.out h4)
     have hq : ((nmL d).length : Int) <= 4096 := by omega
     clear h4
     go_wp2
     go_ret2
     exact putPost_mk (n := 0) HR.out H.out
 ·have HR := Hy (puD_err d h0)
  obtain ⟨n, hn⟩ : ∃ n, ckD d = n := ⟨_, rfl⟩
  rw [hn] at HC HR h0
  have hq : ((n : Int) != 0) = true := by simp; omega
  clear h0 hn
  go_enter Tryz.func185, Tryz.ntmps185
  go_wp2_with fail
  refine HC.out.mono ?_
  rintro e w1 ⟨rfl, hb1⟩
  go_wp2
  go_ret2
  exact putPost_mk (a := []) HR.out hb1
end Go.Proofs.YtpkbgkoocijegaaGreatDoor
