/- What somebody sees, plainly. -/
import Derived.Test.YtbihhdkmmlldnaaGreatDoorAcMN
import Derived.Test.YtbihhdkmmlldnaaGreatDoorEnMP
namespace Go.Proofs.YtbihhdkmmlldnaaGreatDoor
set_option linter.unusedSimpArgs false
set_option linter.unusedVariables false
open Go

theorem al_low (l : List Rl) (who at_ t : List UInt8) (r : Int) : alA l who at_ (lowL t) r = alA l who at_ t r := by
  unfold alA frA
  have : fitA who at_ (lowL t) r = fitA who at_ t r := by
    funext q
    unfold fitA
    rw [lowL_lowL]
  rw [this]
/-- What is given by the first that fits. -/
def gvL (p : Rl → Bool) (l : List Rl) : Bool := ((l.find? p).map (fun r => r.2.2.2.2)).getD false
theorem alO_find (p : Rl → Bool) : ∀ l : List Rl, alO l (l.findIdx? p) = gvL p l := by
  intro l
  induction l with
  | nil => rfl
  | cons r l ih =>
    unfold gvL at *
    rw [List.findIdx?_cons, List.find?_cons]
    cases h : p r with
    | true => simp [alO]
    | false =>
      simp only [Bool.false_eq_true, if_false]
      rw [← ih]
      cases l.findIdx? p with
      | none => rfl
      | some i => simp [alO]
theorem al_gv (l : List Rl) (who at_ t : List UInt8) (r : Int) : alA l who at_ t r = (decide (ckA l = 0) && gvL (fitA who at_ t r) l) := by
  unfold alA frA
  by_cases h : ckA l = 0
  · rw [if_pos h, alO_find, decide_eq_true h]; rfl
  · rw [if_neg h, decide_eq_false h]; rfl
/-- A rule, asked for everything. -/
def evR (r : Rl) : Rl := (r.1, r.2.1, [42], r.2.2.2.1, r.2.2.2.2)
/-- A rule, for everybody and everywhere. -/
def heR (r : Rl) : Rl := ([42], [], r.2.2.1, r.2.2.2.1, r.2.2.2.2)
def neB (who at_ : List UInt8) (r : Rl) : Bool := (frA [evR r] who at_ [42] 1).isSome
def nhL (l : List Rl) (who at_ : List UInt8) : List Rl := (l.filter (neB who at_)).map heR
theorem ck_all {l : List Rl} (h : ckA l = 0) : l.length ≤ 256 ∧ ∀ r ∈ l, rlOk r = true ∧ rtOk r = true := by
  unfold ckA at h
  by_cases h1 : 256 < l.length
  · rw [if_pos h1] at h; cases h
  rw [if_neg h1] at h
  by_cases h2 : l.all rlOk = true
  · rw [if_pos h2] at h
    by_cases h3 : l.all rtOk = true
    · exact ⟨by omega, fun r hr => ⟨List.all_eq_true.1 h2 r hr, List.all_eq_true.1 h3 r hr⟩⟩
    · rw [if_neg h3] at h; cases h
  · rw [if_neg h2] at h; cases h
theorem ck_of {l : List Rl} (h : l.length ≤ 256) (h2 : ∀ r ∈ l, rlOk r = true ∧ rtOk r = true) : ckA l = 0 := by
  rw [ckA_ok (by omega) (List.all_eq_true.2 fun r hr => (h2 r hr).1)]
  unfold erA
  rw [if_pos (List.all_eq_true.2 fun r hr => (h2 r hr).2)]
theorem nm_empty : nrOk [] = true := by
  unfold nrOk
  rw [show nrD [] = some [] from nr_nm (D := []) gd_nil]
  rfl
theorem un_empty : undL [] [] = true := by
  unfold undL
  rw [show nrD [] = some [] from nr_nm (D := []) gd_nil]
  rfl
theorem ev_ok {r : Rl} (h : rlOk r = true) : rlOk (evR r) = true := by
  unfold rlOk evR at *
  simp only [Bool.and_eq_true] at h ⊢
  exact ⟨h.1, by simp⟩
theorem he_ok {r : Rl} (h : rlOk r = true) : rlOk (heR r) = true := by
  unfold rlOk heR at *
  simp only [Bool.and_eq_true] at h ⊢
  exact ⟨⟨by simp, nm_empty⟩, h.2⟩
theorem rt_ev (r : Rl) : rtOk (evR r) = rtOk r := rfl
theorem rt_he (r : Rl) : rtOk (heR r) = rtOk r := rfl
theorem ne_is {who at_ : List UInt8} {r : Rl} (h : rlOk r = true ∧ rtOk r = true) : neB who at_ r = ((r.2.2.2.1 == 1) && (r.1 == [42] || r.1 == who) && undL at_ r.2.1) := by
  have hk : ckA [evR r] = 0 := ck_of (by simp) fun q hq => by
    obtain rfl := List.mem_singleton.1 hq
    exact ⟨ev_ok h.1, h.2⟩
  have hf : fitA who at_ [42] 1 (evR r) = ((r.2.2.2.1 == 1) && (r.1 == [42] || r.1 == who) && undL at_ r.2.1) := by
    unfold fitA evR
    simp
  unfold neB
  rw [fr_one, hf]
  by_cases hc : ((r.2.2.2.1 == 1) && (r.1 == [42] || r.1 == who) && undL at_ r.2.1) = true
  · rw [if_pos ⟨hk, hc⟩, hc]; rfl
  · rw [if_neg (fun x => hc x.2)]
    rw [Bool.eq_false_iff.2 hc]; rfl
theorem fit_he {who at_ w2 t : List UInt8} {r : Rl} (h : rlOk r = true ∧ rtOk r = true) : (neB who at_ r && fitA w2 [] t 1 (heR r)) = fitA who at_ t 1 r := by
  rw [ne_is h]
  unfold fitA heR
  dsimp only
  rw [un_empty]
  cases (r.2.2.2.1 == 1) <;> cases (r.1 == [42] || r.1 == who) <;> cases undL at_ r.2.1 <;> simp
theorem gv_he (who at_ w2 t : List UInt8) : ∀ l : List Rl, (∀ r ∈ l, rlOk r = true ∧ rtOk r = true) → gvL (fitA w2 [] t 1) (nhL l who at_) = gvL (fitA who at_ t 1) l := by
  intro l h
  induction l with
  | nil => rfl
  | cons r l ih =>
    have h0 := h r (by simp)
    have h1 := ih (fun q hq => h q (List.mem_cons_of_mem _ hq))
    have hf := fit_he (who := who) (at_ := at_) (w2 := w2) (t := t) h0
    unfold nhL gvL at *
    rw [List.filter_cons]
    cases hn : neB who at_ r with
    | true =>
      rw [hn, Bool.true_and] at hf
      rw [if_pos rfl, List.map_cons, List.find?_cons, List.find?_cons, hf]
      cases fitA who at_ t 1 r with
      | true => rfl
      | false => exact h1
    | false =>
      rw [hn, Bool.false_and] at hf
      rw [if_neg (by simp), List.find?_cons, ← hf]
      exact h1
theorem ne_ck {l : List Rl} (h : ckA l = 0) (who at_ : List UInt8) : ckA (nhL l who at_) = 0 := by
  obtain ⟨h1, h2⟩ := ck_all h
  refine ck_of ?_ fun q hq => ?_
  · unfold nhL
    rw [List.length_map]
    exact Nat.le_trans (List.length_filter_le _ _) h1
  · obtain ⟨r, hr, rfl⟩ := List.mem_map.1 hq
    have := h2 r (List.mem_filter.1 hr).1
    exact ⟨he_ok this.1, by rw [rt_he]; exact this.2⟩
/-- Rules gone over once tell what all tell. -/
theorem ne_al {l : List Rl} (h : ckA l = 0) (who at_ w2 t : List UInt8) : alA (nhL l who at_) w2 [] t 1 = alA l who at_ t 1 := by
  rw [al_gv, al_gv, decide_eq_true h, decide_eq_true (ne_ck h who at_), Bool.true_and, Bool.true_and]
  exact gv_he who at_ w2 t l (ck_all h).2
theorem al_ck {l : List Rl} {who at_ t : List UInt8} {r : Int} (h : alA l who at_ t r = true) : ckA l = 0 := by
  rw [al_gv, Bool.and_eq_true, decide_eq_true_eq] at h
  exact h.1

/-! ### Entries -/
def seB (l : List Rl) (who dn : List UInt8) : Bool := alA l who dn [101, 110, 116, 114, 121] 1
def rdB (l : List Rl) (who dn : List UInt8) (t : List UInt8) : Bool := alA l who dn t 1
/-- What somebody sees of attributes. -/
def vwA (l : List Rl) (who dn : List UInt8) (A : List Atr) : List Atr := (clA A).filter fun a => rdB l who dn a.1
theorem vw_uniq {L L' : List Atr} (h : L.Pairwise (fun p q => p.1 < q.1)) (h' : L'.Pairwise (fun p q => p.1 < q.1)) (hm : ∀ p, p ∈ L ↔ p ∈ L') : L = L' := by
  have nd : ∀ {L : List Atr}, L.Pairwise (fun p q => p.1 < q.1) → L.Nodup := fun h => h.imp fun hlt e => by subst e; exact absurd hlt (List.lt_irrefl _)
  refine List.Perm.eq_of_pairwise (le := fun p q => p.1 < q.1) (fun a b _ _ h1 h2 => absurd (List.lt_trans h1 h2) (List.lt_irrefl _)) h h' ?_
  exact (List.perm_ext_iff_of_nodup (nd h) (nd h')).2 hm
/-- What may not be read changes nothing of what is seen. -/
theorem vw_blind {l : List Rl} {who dn t : List UInt8} {A : List Atr} {vs : List (List UInt8)} (h : rdB l who dn t = false) : vwA l who dn (A ++ [(t, vs)]) = vwA l who dn A := by
  refine vw_uniq ((cl_is _).1.filter _) ((cl_is _).1.filter _) fun p => ?_
  unfold vwA
  rw [List.mem_filter, List.mem_filter, (cl_is _).2, (cl_is _).2]
  by_cases hp : rdB l who dn p.1 = true
  · have hne : (lowL t == p.1) = false := by
      rw [beq_eq_false_iff_ne]
      intro e
      unfold rdB at h hp
      rw [← al_low, e, hp] at h
      cases h
    have hv : vaL (A ++ [(t, vs)]) p.1 = vaL A p.1 := by
      rw [va_app]
      unfold vaL
      simp [List.filter_cons, hne]
    rw [hv]
  · constructor
    · rintro ⟨_, h2⟩; exact absurd h2 hp
    · rintro ⟨_, h2⟩; exact absurd h2 hp
/-- What is seen is what is there. -/
theorem vw_get {l : List Rl} {who dn : List UInt8} {A : List Atr} {p : Atr} (h : p ∈ vwA l who dn A) : geL A p.1 = p.2 ∧ p.2 ≠ [] := by
  obtain ⟨h1, _⟩ := List.mem_filter.1 h
  have h2 := (cl_is A).2 p |>.1 h1
  unfold geL
  rw [cl_low h1]
  exact ⟨h2.1.symm, h2.2⟩
/-! ### Two rules -/
def twR (t : List UInt8) : List Rl := [([42], [], t, 1, false), ([42], [], [42], 1, true)]
theorem tw_ck {t : List UInt8} (h : tyL t = true) : ckA (twR t) = 0 := by
  refine ck_of (by simp [twR]) fun r hr => ?_
  unfold twR at hr
  simp only [List.mem_cons, List.not_mem_nil, or_false] at hr
  rcases hr with rfl | rfl
  · exact ⟨by unfold rlOk; dsimp only; rw [nm_empty, h]; simp, rfl⟩
  · exact ⟨by unfold rlOk; dsimp only; rw [nm_empty]; simp, rfl⟩
theorem tw_al {t : List UInt8} (h : tyL t = true) (ht : (t == [42]) = false) {dn : List UInt8} (hd : undL dn [] = true) (s : List UInt8) : alA (twR t) [] dn s 1 = !(lowL t == lowL s) := by
  rw [al_gv, decide_eq_true (tw_ck h), Bool.true_and]
  unfold gvL twR
  have e1 : fitA [] dn s 1 ([42], [], t, 1, false) = (lowL t == lowL s) := by
    unfold fitA; dsimp only; rw [hd, ht]; simp
  have e2 : fitA [] dn s 1 ([42], [], [42], 1, true) = true := by
    unfold fitA; dsimp only; rw [hd]; simp
  rw [List.find?_cons, e1]
  cases (lowL t == lowL s) with
  | true => rfl
  | false => rw [List.find?_cons, e2]; rfl
end Go.Proofs.YtbihhdkmmlldnaaGreatDoor
