/- Names that are put are read back; where names stand, plainly. Where names stand: plain facts of the laws. -/
import Derived.Test.YtpkbgkoocijegaaGreatDoorDqJ
import Derived.Test.YtpkbgkoocijegaaGreatDoorDqI
set_option linter.unusedVariables false
set_option linter.unusedSimpArgs false
set_option maxHeartbeats 25600000
set_option maxRecDepth 100000
namespace Go.Proofs.YtpkbgkoocijegaaGreatDoor
open Go Go.RowKit Go.Proofs.BerK Go.Proofs.MemK Go.Proofs.UtfK
theorem tc_all : ∀ n : Fin 256, tcN n.val = true -> n.val ≠ 92 /\ n.val ≠ 43 /\ n.val ≠ 44 /\ n.val ≠ 61 /\ n.val ≠ 32 := by decide +kernel
theorem tc_ne {c : UInt8} (h : tcN c.toNat = true) : c ≠ 92 /\ c ≠ 43 /\ c ≠ 44 /\ c ≠ 61 /\ c ≠ 32 := by
 obtain ⟨h1, h2, h3, h4, h5⟩ := tc_all ⟨c.toNat, c.toNat_lt⟩ h
 exact ⟨fun e => h1 (by rw [e]; rfl), fun e => h2 (by rw [e]; rfl), fun e => h3 (by rw [e]; rfl), fun e => h4 (by rw [e]; rfl), fun e => h5 (by rw [e]; rfl)⟩
theorem ty_tc {T : List UInt8} (h : tyL T = true) : ∀ c ∈ T, tcN c.toNat = true := by
 simp only [tyL, Bool.and_eq_true, List.all_eq_true] at h
 exact h.2
theorem spl_ty (T : List UInt8) (h : ∀ c ∈ T, tcN c.toNat = true) (u : List UInt8) : splG (T ++ u) = (T ++ (splG u).1, (splG u).2) := by
 induction T with
 | nil => rfl
 | cons c r ih =>
  obtain ⟨n1, n2, n3, _⟩ := tc_ne (h c (by simp))
  rw [List.cons_append, splG_else _ _ n1 n2 n3, ih (fun x hx => h x (by simp [hx]))]
  rfl
theorem spl_av (p : Av) (h : tyL p.1 = true) (u : List UInt8) : splG (avL p ++ u) = (avL p ++ (splG u).1, (splG u).2) := by
 unfold avL
 rw [List.append_assoc, List.cons_append, spl_ty _ (ty_tc h), splG_else 61 _ (by decide) (by decide) (by decide)]
 unfold esL
 rw [spl_es]
 simp
theorem spl_avs (ps : List Av) (h : ∀ p ∈ ps, tyL p.1 = true) (u : List UInt8) (h1 : (splG u).1 = []) (h2 : (splG u).2.1 = []) :
  splG (jnL 43 false (ps.map avL) ++ u) = ([], ps.map avL, (splG u).2.2) := by
 induction ps with
 | nil => rw [List.map_nil, jnL, List.nil_append, <- h2, <- h1]
 | cons q qs ih =>
  rw [List.map_cons, jnL, if_neg (by decide), List.append_assoc, List.append_assoc, List.cons_append, List.nil_append, splG_plus, spl_av q (h q (by simp)), ih (fun p hp => h p (by simp [hp]))]
  simp
theorem spl_pt (r : List Av) (h0 : r ≠ []) (h : ∀ p ∈ r, tyL p.1 = true) (u : List UInt8) (h1 : (splG u).1 = []) (h2 : (splG u).2.1 = []) :
  (splG (ptL r ++ u)).1 :: (splG (ptL r ++ u)).2.1 = r.map avL /\ (splG (ptL r ++ u)).2.2 = (splG u).2.2 := by
 cases r with
 | nil => exact absurd rfl h0
 | cons p ps =>
  unfold ptL
  rw [List.map_cons, jnL, if_pos rfl, List.nil_append, List.append_assoc, spl_av p (h p (by simp)), spl_avs ps (fun q hq => h q (by simp [hq])) u h1 h2]
  simp
theorem spl_pts (rs : List (List Av)) (h0 : ∀ r ∈ rs, r ≠ []) (h : ∀ r ∈ rs, ∀ p ∈ r, tyL p.1 = true) : splG (jnL 44 false (rs.map ptL)) = ([], [], rs.map (·.map avL)) := by
 induction rs with
 | nil => rfl
 | cons r rs ih =>
  have hi := ih (fun x hx => h0 x (by simp [hx])) (fun x hx => h x (by simp [hx]))
  have hp := spl_pt r (h0 r (by simp)) (h r (by simp)) (jnL 44 false (rs.map ptL)) (by rw [hi]) (by rw [hi])
  rw [List.map_cons, jnL, if_neg (by decide), List.cons_append, List.nil_append, splG_comma, hp.1, hp.2, hi]
  simp
theorem spl_nm (D : List (List Av)) (hD : D ≠ []) (h0 : ∀ r ∈ D, r ≠ []) (h : ∀ r ∈ D, ∀ p ∈ r, tyL p.1 = true) : splL (nmL D) = D.map (·.map avL) := by
 cases D with
 | nil => exact absurd rfl hD
 | cons r rs =>
  have hi := spl_pts rs (fun x hx => h0 x (by simp [hx])) (fun x hx => h x (by simp [hx]))
  have hp := spl_pt r (h0 r (by simp)) (h r (by simp)) (jnL 44 false (rs.map ptL)) (by rw [hi]) (by rw [hi])
  unfold splL splT nmL
  rw [List.map_cons, jnL, if_pos rfl, List.nil_append, List.nil_append, List.nil_append, hp.1, hp.2, hi]
  simp
theorem trim_ty (T : List UInt8) (h : ∀ c ∈ T, tcN c.toNat = true) : tlB (trB T) = T := by
 have e1 : ∀ l : List UInt8, (∀ c ∈ l, tcN c.toNat = true) -> l.dropWhile (· == 32) = l := by
  intro l hl
  cases l with
  | nil => rfl
  | cons c r => rw [List.dropWhile_cons_of_neg]; simpa using (tc_ne (hl c (by simp))).2.2.2.2
 unfold tlB trB
 rw [e1 T.reverse (fun c hc => h c (List.mem_reverse.1 hc)), List.reverse_reverse, e1 T h]
theorem cut_ty (T : List UInt8) (h : ∀ c ∈ T, tcN c.toNat = true) (u : List UInt8) : cut1 61 (T ++ 61 :: u) = T /\ cut2 61 (T ++ 61 :: u) = u := by
 induction T with
 | nil => exact ⟨by simp [cut1], by simp [cut2]⟩
 | cons c r ih =>
  have hc := (tc_ne (h c (by simp))).2.2.2.1
  obtain ⟨h1, h2⟩ := ih (fun x hx => h x (by simp [hx]))
  refine ⟨?_, ?_⟩
  ·unfold cut1 at h1 ⊢
   rw [List.cons_append, List.takeWhile_cons_of_pos (by simpa using hc), h1]
  ·unfold cut2 at h2 ⊢
   rw [List.cons_append, List.dropWhile_cons_of_pos (by simpa using hc), h2]
theorem rp_av (p : Av) (h : tyL p.1 = true) (h0 : p.2 ≠ []) : rpL (avL p) = some p := by
 obtain ⟨c1, c2⟩ := cut_ty p.1 (ty_tc h) (esL p.2)
 have e : rvL (esL p.2) = some p.2 := by
  unfold rvL esL
  rw [es_head, rv_es]
 unfold rpL avL
 rw [c1, c2, trim_ty p.1 (ty_tc h), h, e]
 simp [rpJ, h0]
theorem rps_av (r : List Av) (h : ∀ p ∈ r, tyL p.1 = true /\ p.2 ≠ []) : rpsL (r.map avL) = some r := by
 induction r with
 | nil => rfl
 | cons p ps ih =>
  obtain ⟨h1, h2⟩ := h p (by simp)
  rw [List.map_cons, rpsL, rp_av p h1 h2, ih (fun q hq => h q (by simp [hq]))]
  rfl
theorem rpp_av (D : List (List Av)) (h : ∀ r ∈ D, ∀ p ∈ r, tyL p.1 = true /\ p.2 ≠ []) : rpp (D.map (·.map avL)) = some D := by
 induction D with
 | nil => rfl
 | cons r rs ih =>
  rw [List.map_cons, rpp, rps_av r (h r (by simp)), ih (fun x hx => h x (by simp [hx]))]
  rfl
theorem ok_ty {p : Av} (h : avOk p = true) : tyL p.1 = true /\ p.2 ≠ [] := by
 simp only [avOk, Bool.and_eq_true, decide_eq_true_eq] at h
 exact ⟨h.1.1, h.1.2⟩
theorem pr_ty {r : List Av} (h : prL r = true) : r ≠ [] /\ ∀ p ∈ r, tyL p.1 = true /\ p.2 ≠ [] := by
 obtain ⟨p1, p2, p3⟩ := prL_facts h
 exact ⟨by rintro rfl; simp at p1, fun p hp => ok_ty (p3 p hp)⟩
theorem pt_ne {r : List Av} (h : r ≠ []) : ptL r ≠ [] := by
 cases r with
 | nil => exact absurd rfl h
 | cons p ps => simp [ptL, jnL, avL]
theorem nm_ne {D : List (List Av)} (h : ∀ r ∈ D, r ≠ []) (hD : D ≠ []) : nmL D ≠ [] := by
 cases D with
 | nil => exact absurd rfl hD
 | cons r rs =>
  unfold nmL
  rw [List.map_cons, jnL]
  have := pt_ne (h r (by simp))
  simp [this]
theorem rd_nm (D : List (List Av)) (hl : D.length <= 32) (h : ∀ r ∈ D, prL r = true) (h4 : (nmL D).length <= 4096) : rdD (nmL D) = (D, 0) := by
 by_cases hD : D = []
 ·subst hD; rfl
 have hn := nm_ne (fun r hr => (pr_ty (h r hr)).1) hD
 have hs := spl_nm D hD (fun r hr => (pr_ty (h r hr)).1) (fun r hr p hp => ((pr_ty (h r hr)).2 p hp).1)
 rw [rdD_some _ (by omega) hn (by rw [hs]; exact rpp_av D fun r hr => (pr_ty (h r hr)).2)]
 have h5 : lgD D = false := by
  unfold lgD
  rw [Bool.or_eq_false_iff, decide_eq_false_iff_not, List.any_eq_false]
  refine ⟨by omega, fun r hr => ?_⟩
  have := (prL_facts (h r hr)).2.1
  simp; omega
 have h6 : ckD D = 0 := by
  unfold ckD
  rw [if_neg (by omega), if_pos (by simpa using h)]
 rw [h5, h6]
 simp
def GD (D : List (List Av)) : Prop := D.length <= 32 /\ (∀ r ∈ D, prL r = true /\ nmR r = r) /\ (nmL D).length <= 4096
def nrD (s : List UInt8) : Option (List (List Av)) := if noD s = (s, 0) then some (rdD s).1 else none
theorem map_same {α : Type} {f : α -> α} {l : List α} (h : ∀ x ∈ l, f x = x) : l.map f = l := by
 induction l with
 | nil => rfl
 | cons x l ih => rw [List.map_cons, h x (by simp), ih fun y hy => h y (by simp [hy])]
theorem of_map_same {α : Type} {f : α -> α} {l : List α} (h : l.map f = l) : ∀ x ∈ l, f x = x := by
 induction l with
 | nil => simp
 | cons x l ih =>
  rw [List.map_cons] at h
  injection h with h1 h2
  intro y hy
  rcases List.mem_cons.1 hy with rfl | hy
  ·exact h1
  ·exact ih h2 y hy
theorem puD_gd {D : List (List Av)} (h : GD D) : puD D = (nmL D, 0) := by
 have h6 : ckD D = 0 := by
  unfold ckD
  rw [if_neg (by have := h.1; omega), if_pos (by simpa using fun r hr => (h.2.1 r hr).1)]
 unfold puD
 rw [if_neg (by simp [h6]), if_neg (by have := h.2.2; omega)]
theorem nr_nm {D : List (List Av)} (h : GD D) : nrD (nmL D) = some D := by
 have hr := rd_nm D h.1 (fun r hr => (h.2.1 r hr).1) h.2.2
 have hn : noD (nmL D) = (nmL D, 0) := by
  rw [noD_ok hr, map_same fun r hr => (h.2.1 r hr).2, puD_gd h]
 unfold nrD
 rw [if_pos hn, hr]
theorem nr_some {s : List UInt8} {D : List (List Av)} (h : nrD s = some D) : s = nmL D /\ GD D := by
 unfold nrD at h
 split at h
 ·rename_i hn
  injection h with h
  by_cases h2 : (rdD s).2 = 0
  ·obtain ⟨E, e, hE⟩ : ∃ E e, rdD s = (E, e) := ⟨_, _, rfl⟩
   rw [hE] at h h2
   simp only at h h2
   subst h2 h
   rw [noD_ok hE] at hn
   unfold puD at hn
   split at hn
   ·rename_i hc; injection hn with _ h3; exact absurd h3 hc
   ·rename_i hc
    split at hn
    ·injection hn with _ h3; cases h3
    ·rename_i h4
     injection hn with h3 _
     obtain ⟨q1, q2⟩ := ckD_facts (show ckD (E.map nmR) = 0 by omega)
     have hr := rd_nm (E.map nmR) q1 q2 (by omega)
     rw [h3, hE] at hr
     injection hr with hr _
     have hs := of_map_same hr.symm
     rw [<- hr] at q1 q2 h3 h4
     exact ⟨h3.symm, q1, fun r hr => ⟨q2 r hr, hs r hr⟩, by omega⟩
  ·unfold noD at hn
   rw [if_pos h2] at hn
   injection hn with _ h3
   exact absurd h3 h2
 ·cases h
theorem nr_of {s : List UInt8} (h : noD s = (s, 0)) : ∃ D, nrD s = some D := by unfold nrD; rw [if_pos h]; exact ⟨_, rfl⟩
theorem nr_not {s : List UInt8} (h : noD s ≠ (s, 0)) : nrD s = none := by unfold nrD; rw [if_neg h]
def chL (a b : List UInt8) : List UInt8 := if a = [] then b else if b = [] then a else a ++ 44 :: b
theorem jn_app (sep : UInt8) (b : List (List UInt8)) : ∀ (f : Bool) (a : List (List UInt8)), a ≠ [] -> jnL sep f (a ++ b) = jnL sep f a ++ jnL sep false b := by
 intro f a
 induction a generalizing f with
 | nil => intro h; exact absurd rfl h
 | cons x r ih =>
  intro _
  rw [List.cons_append, jnL, jnL]
  by_cases hr : r = []
  ·subst hr; simp [jnL]
  ·rw [ih false hr]; simp
theorem jn_false (sep : UInt8) (b : List (List UInt8)) (h : b ≠ []) : jnL sep false b = sep :: jnL sep true b := by
 cases b with
 | nil => exact absurd rfl h
 | cons x r => rw [jnL, jnL, if_neg (by decide), if_pos rfl]; simp
theorem nm_nil : nmL [] = [] := rfl
theorem nm_app {D E : List (List Av)} (hD : ∀ r ∈ D, r ≠ []) (hE : ∀ r ∈ E, r ≠ []) : nmL (D ++ E) = chL (nmL D) (nmL E) := by
 unfold chL
 by_cases h1 : D = []
 ·subst h1; rw [nm_nil, if_pos rfl]; rfl
 ·rw [if_neg (nm_ne hD h1)]
  by_cases h2 : E = []
  ·subst h2; rw [nm_nil, if_pos rfl, List.append_nil]
  ·rw [if_neg (nm_ne hE h2)]
   unfold nmL
   rw [List.map_append, jn_app _ _ _ _ (by simpa using h1), jn_false _ _ (by simpa using h2)]
theorem nm_cons (r : List Av) (D : List (List Av)) : nmL (r :: D) = ptL r ++ jnL 44 false (D.map ptL) := by
 unfold nmL; rw [List.map_cons, jnL, if_pos rfl, List.nil_append]
theorem nm_one (r : List Av) : nmL [r] = ptL r := by rw [nm_cons]; simp [jnL]
theorem nm_tail (D : List (List Av)) (h : D ≠ []) : jnL 44 false (D.map ptL) = 44 :: nmL D := jn_false _ _ (by simpa using h)
theorem ch_le (a b : List UInt8) : a.length <= (chL a b).length /\ b.length <= (chL a b).length /\ (chL a b).length <= a.length + b.length + 1 := by
 unfold chL
 split
 ·rename_i h; subst h; simp
 ·split
  ·rename_i h; subst h; simp
  ·simp; omega
theorem nr_ne {r : List Av} (h : prL r = true /\ nmR r = r) : r ≠ [] := (pr_ty h.1).1
theorem gd_sub {P E : List (List Av)} (h : GD (P ++ E)) : GD P /\ GD E := by
 obtain ⟨h1, h2, h3⟩ := h
 rw [nm_app (fun r hr => nr_ne (h2 r (by simp [hr]))) (fun r hr => nr_ne (h2 r (by simp [hr])))] at h3
 obtain ⟨c1, c2, _⟩ := ch_le (nmL P) (nmL E)
 simp at h1
 exact ⟨⟨by omega, fun r hr => h2 r (by simp [hr]), by omega⟩, by omega, fun r hr => h2 r (by simp [hr]), by omega⟩
theorem gd_cons {r : List Av} {D : List (List Av)} (h : GD (r :: D)) : GD [r] /\ GD D := gd_sub (P := [r]) h
theorem gd_nil : GD [] := ⟨by simp, by simp, by simp [nmL, jnL]⟩
def psL : List UInt8 -> List UInt8
 | [] => []
 | c :: r =>
  if c = 92 then
   match r with
   | [] => [c]
   | d :: r' => c :: d :: psL r'
  else if c = 44 then [] else c :: psL r
theorem psL_slash (r : List UInt8) : psL (92 :: r) = (92 :: r).take 2 ++ psL ((92 :: r).drop 2) := by
 cases r with
 | nil => simp [psL]
 | cons d r' => rw [psL]; simp
theorem psL_comma (r : List UInt8) : psL (44 :: r) = [] := by
 conv => lhs; unfold psL
 cases r <;> simp
theorem psL_else (c : UInt8) (r : List UInt8) (h1 : c ≠ 92) (h3 : c ≠ 44) : psL (c :: r) = c :: psL r := by
 conv => lhs; unfold psL
 cases r <;> simp [h1, h3]
theorem ps_es (s : List UInt8) : ∀ (f : Bool) (u : List UInt8), psL (egL f s ++ u) = egL f s ++ psL u := by
 induction s with
 | nil => intro f u; rfl
 | cons c r ih =>
  intro f u
  rw [egL, List.append_assoc]
  cases hb : bareN c.toNat with
  | true =>
   obtain ⟨_, _, _, _, n1, n2, n3⟩ := hx_c c
   rw [e1_bare _ _ _ hb]
   simp only [List.cons_append, List.nil_append]
   rw [psL_slash]
   simp only [List.take_succ_cons, List.take_zero, List.drop_succ_cons, List.drop_zero]
   rw [psL_else _ _ n1 n3, ih false u]
   rfl
  | false =>
   cases hm : mkN f r.isEmpty c.toNat with
   | true =>
    rw [e1_mark _ _ _ hb hm]
    simp only [List.cons_append, List.nil_append]
    rw [psL_slash]
    simp only [List.take_succ_cons, List.take_zero, List.drop_succ_cons, List.drop_zero]
    rw [ih false u]
    rfl
   | false =>
    obtain ⟨n1, n2, n3⟩ := plain_ne hm
    rw [e1_else _ _ _ hb hm]
    simp only [List.cons_append, List.nil_append]
    rw [psL_else _ _ n1 n3, ih false u]
theorem ps_ty (T : List UInt8) (h : ∀ c ∈ T, tcN c.toNat = true) (u : List UInt8) : psL (T ++ u) = T ++ psL u := by
 induction T with
 | nil => rfl
 | cons c r ih =>
  obtain ⟨n1, n2, n3, _⟩ := tc_ne (h c (by simp))
  rw [List.cons_append, psL_else _ _ n1 n3, ih (fun x hx => h x (by simp [hx]))]
  rfl
theorem ps_av (p : Av) (h : tyL p.1 = true) (u : List UInt8) : psL (avL p ++ u) = avL p ++ psL u := by
 unfold avL
 rw [List.append_assoc, List.cons_append, ps_ty _ (ty_tc h), psL_else 61 _ (by decide) (by decide)]
 unfold esL
 rw [ps_es]
 simp
theorem ps_jn (ps : List Av) (h : ∀ p ∈ ps, tyL p.1 = true) (u : List UInt8) : ∀ f : Bool, psL (jnL 43 f (ps.map avL) ++ u) = jnL 43 f (ps.map avL) ++ psL u := by
 induction ps with
 | nil => intro f; rfl
 | cons q qs ih =>
  intro f
  have hi := ih (fun p hp => h p (by simp [hp])) false
  rw [List.map_cons, jnL]
  cases f with
  | true =>
   rw [if_pos rfl, List.nil_append, List.append_assoc, ps_av q (h q (by simp)), hi, List.append_assoc]
  | false =>
   rw [if_neg (by decide), List.append_assoc, List.append_assoc, List.cons_append, List.nil_append, psL_else 43 _ (by decide) (by decide), ps_av q (h q (by simp)), hi]
   simp
theorem ps_nm (r : List Av) (D : List (List Av)) (h : ∀ p ∈ r, tyL p.1 = true) : psL (nmL (r :: D)) = ptL r := by
 rw [nm_cons]
 show psL (jnL 43 true (r.map avL) ++ _) = _
 rw [ps_jn r h]
 by_cases hD : D = []
 ·subst hD; simp [jnL, psL, ptL]
 ·rw [nm_tail D hD, psL_comma]; simp [ptL]
def parL (s : List UInt8) : List UInt8 × Bool := match nrD s with | some (_ :: D) => (nmL D, true) | _ => ([], false)
def leafL (s : List UInt8) : List UInt8 × Bool := match nrD s with | some (r :: _) => (ptL r, true) | _ => ([], false)
theorem nr_ways (s : List UInt8) : (nrD s = none \/ nrD s = some []) \/ ∃ r D, nrD s = some (r :: D) := by
 cases h : nrD s with
 | none => exact .inl (.inl rfl)
 | some D => cases D with
  | nil => exact .inl (.inr rfl)
  | cons r D => exact .inr ⟨r, D, rfl⟩
theorem leaf_none {s : List UInt8} (h : nrD s = none \/ nrD s = some []) : leafL s = ([], false) := by unfold leafL; rcases h with h | h <;> rw [h]
theorem leaf_cons {s : List UInt8} {r : List Av} {D : List (List Av)} (h : nrD s = some (r :: D)) : leafL s = (ptL r, true) := by unfold leafL; rw [h]
theorem par_cons {s : List UInt8} {r : List Av} {D : List (List Av)} (h : nrD s = some (r :: D)) : parL s = (nmL D, true) := by unfold parL; rw [h]
end Go.Proofs.YtpkbgkoocijegaaGreatDoor
