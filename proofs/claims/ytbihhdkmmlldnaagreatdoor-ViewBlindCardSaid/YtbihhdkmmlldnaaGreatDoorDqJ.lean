/- The given texts, read and put plainly. The law's own given texts come out as said. What is escaped is read back. -/
import Derived.Test.YtbihhdkmmlldnaaGreatDoorDqI
import Derived.Test.YtbihhdkmmlldnaaGreatDoorDqB
namespace Go.Proofs.YtbihhdkmmlldnaaGreatDoor
set_option linter.unusedSimpArgs false
set_option linter.unusedVariables false
open Go Go.RowKit Go.Proofs.BerK Go.Proofs.MemK Go.Proofs.UtfK

theorem lit_rd1 : rdD [67, 78, 32, 61, 32, 65, 108, 32, 32, 75, 111, 32, 44, 32, 68, 67, 61, 120] = ([[([67, 78], [65, 108, 32, 32, 75, 111])], [([68, 67], [120])]], 0) := by decide +kernel
theorem lit_no1 : noD [67, 78, 32, 61, 32, 65, 108, 32, 32, 75, 111, 32, 44, 32, 68, 67, 61, 120] = ([99, 110, 61, 97, 108, 32, 107, 111, 44, 100, 99, 61, 120], 0) := by
  rw [noD_ok lit_rd1]
  have e : ([[([67, 78], [65, 108, 32, 32, 75, 111])], [([68, 67], [120])]] : List (List Av)).map nmR = [[([99, 110], [97, 108, 32, 107, 111])], [([100, 99], [120])]] := by
    simp only [List.map_cons, List.map_nil, nmR, srtR_one]
    decide +kernel
  rw [e]
  decide +kernel
theorem lit_rd2 : rdD [97, 61, 92, 35, 98, 92, 50, 99, 43, 99, 61, 100, 92, 32] = ([[([97], [35, 98, 44]), ([99], [100, 32])]], 0) := by decide +kernel
theorem lit_pu2 : puD [[([97], [35, 98, 44]), ([99], [100, 32])]] = ([97, 61, 92, 35, 98, 92, 44, 43, 99, 61, 100, 92, 32], 0) := by decide +kernel
theorem lit_rd3 : rdD [97, 61, 98, 44] = ([], 5) := by decide +kernel
theorem lit_rd4 : rdD [97, 61, 49, 43, 65, 61, 50] = ([], 5) := by decide +kernel
theorem lit_rd5 : rdD [] = ([], 0) := by decide +kernel
theorem lit_es : esL [32] = [92, 32] := by decide +kernel
end Go.Proofs.YtbihhdkmmlldnaaGreatDoor
namespace Go.Proofs.YtbihhdkmmlldnaaGreatDoor
set_option linter.unusedSimpArgs false
set_option linter.unusedVariables false
open Go Go.RowKit Go.Proofs.BerK Go.Proofs.MemK Go.Proofs.UtfK

theorem rd_err {n : Nat} (hn : n ≠ 0) {e1 e2 : TypeId} {w w' : World} {en : Ending} (h : RdPost ([], n) e1 e2 w en w') : en = .returned (.tuple #[.slice none 0 0, .int .i64 (n : Nat)]) ∧ Below w.heap.size w w' := by
  rcases h with ⟨_, h, hb⟩ | ⟨h, _⟩
  · exact ⟨h, hb⟩
  · exact absurd h hn
theorem rd_nil {e1 e2 : TypeId} {w w' : World} {en : Ending} (h : RdPost ([], 0) e1 e2 w en w') : ∃ a, en = .returned (.tuple #[.slice a 0 0, .int .i64 0]) ∧ Below w.heap.size w w' := by
  rcases h with ⟨_, h, hb⟩ | ⟨_, g, gs, h, _, hb⟩
  · exact ⟨_, h, hb⟩
  · exact ⟨_, h, hb⟩
theorem rd_some {D : List (List Av)} (hD : D ≠ []) {n : Nat} {e1 e2 : TypeId} {w w' : World} {en : Ending} (h : RdPost (D, n) e1 e2 w en w') : ∃ g gs, en = .returned (.tuple #[rowV g D.length, .int .i64 0]) ∧ DnBlk w' w.heap.size g gs D 0 e1 e2 ∧ Below w.heap.size w w' := by
  rcases h with ⟨h, _⟩ | ⟨_, g, gs, h, h2⟩
  · exact absurd h hD
  · exact ⟨g, gs, h, h2⟩
/-- The cells of a part's pair. -/
theorem blk_cells {w : World} {B g : Nat} {gs : List Nat} {D : List (List Av)} {e1 e2 : TypeId} (h : DnBlk w B g gs D 0 e1 e2) (i : Nat) (hi : i < D.length) : ∃ gi, gi < w.heap.size ∧ g < w.heap.size ∧ w.cell? ⟨g, i, none⟩ = some (.slice (some ⟨gi, 0, none⟩) D[i].length D[i].length) ∧
    ∀ j (hj : j < D[i].length), w.cell? ⟨gi, j * 2, none⟩ = some (.string ⟨D[i][j].1.toArray⟩) ∧ w.cell? ⟨gi, j * 2 + 1, none⟩ = some (.string ⟨D[i][j].2.toArray⟩) := by
  have hi' : i < gs.length := by rw [h.len]; exact hi
  have hr := (h.rows i hi' hi).2.2
  refine ⟨gs[i], obj_lt hr, obj_lt h.outer, ?_, fun j hj => ⟨obj_cell hr (j * 2) _ (by simpa using (avc_at D[i] j hj).1), obj_cell hr (j * 2 + 1) _ (by simpa using (avc_at D[i] j hj).2)⟩⟩
  exact obj_cell h.outer i _ (by simpa [rowV] using ovc_at gs D i hi' hi)

end Go.Proofs.YtbihhdkmmlldnaaGreatDoor
namespace Go.Proofs.YtbihhdkmmlldnaaGreatDoor
set_option linter.unusedSimpArgs false
set_option linter.unusedVariables false
open Go Go.RowKit Go.Proofs.BerK Go.Proofs.MemK Go.Proofs.UtfK

theorem hx_all : ∀ n : Fin 256, mayN (hxD (n.val / 16)).toNat = false ∧ hxN (hxD (n.val / 16)).toNat < 16 ∧ hxN (hxD (n.val % 16)).toNat < 16 ∧ UInt8.ofNat (16 * hxN (hxD (n.val / 16)).toNat + hxN (hxD (n.val % 16)).toNat) = UInt8.ofNat n.val ∧ hxD (n.val % 16) ≠ 92 ∧ hxD (n.val % 16) ≠ 43 ∧ hxD (n.val % 16) ≠ 44 := by decide +kernel
theorem hx_c (c : UInt8) : mayN (hxD (c.toNat / 16)).toNat = false ∧ hxN (hxD (c.toNat / 16)).toNat < 16 ∧ hxN (hxD (c.toNat % 16)).toNat < 16 ∧ UInt8.ofNat (16 * hxN (hxD (c.toNat / 16)).toNat + hxN (hxD (c.toNat % 16)).toNat) = c ∧ hxD (c.toNat % 16) ≠ 92 ∧ hxD (c.toNat % 16) ≠ 43 ∧ hxD (c.toNat % 16) ≠ 44 := by
  have h := hx_all ⟨c.toNat, c.toNat_lt⟩
  have e : UInt8.ofNat c.toNat = c := by simp
  simp only [e] at h
  exact h
theorem plain_ne {f l : Bool} {c : UInt8} (h : mkN f l c.toNat = false) : c ≠ 92 ∧ c ≠ 43 ∧ c ≠ 44 := by
  refine ⟨?_, ?_, ?_⟩ <;> (rintro rfl; revert h; cases f <;> cases l <;> decide)
theorem mark_may {f l : Bool} {c : Nat} (h : mkN f l c = true) : mayN c = true := by
  unfold mkN at h
  unfold mayN
  split at h
  · rename_i e; simp [e]
  · split at h
    · rename_i e; simp [e]
    · simp [h]
/-- What is escaped holds no sign that parts. -/
theorem spl_es (s : List UInt8) : ∀ (f : Bool) (u : List UInt8), splG (egL f s ++ u) = (egL f s ++ (splG u).1, (splG u).2) := by
  induction s with
  | nil => intro f u; rfl
  | cons c r ih =>
    intro f u
    rw [egL, List.append_assoc]
    cases hb : bareN c.toNat with
    | true =>
      obtain ⟨_, _, _, _, n1, n2, n3⟩ := hx_c c
      rw [e1_bare _ _ _ hb]
      simp only [List.cons_append, List.nil_append]
      rw [splG_slash]
      simp only [List.take_succ_cons, List.take_zero, List.drop_succ_cons, List.drop_zero]
      rw [splG_else _ _ n1 n2 n3, ih false u]
      rfl
    | false =>
      cases hm : mkN f r.isEmpty c.toNat with
      | true =>
        rw [e1_mark _ _ _ hb hm]
        simp only [List.cons_append, List.nil_append]
        rw [splG_slash]
        simp only [List.take_succ_cons, List.take_zero, List.drop_succ_cons, List.drop_zero]
        rw [ih false u]
        rfl
      | false =>
        obtain ⟨n1, n2, n3⟩ := plain_ne hm
        rw [e1_else _ _ _ hb hm]
        simp only [List.cons_append, List.nil_append]
        rw [splG_else _ _ n1 n2 n3, ih false u]
/-- What is escaped is read as it was. -/
theorem rv_es (s : List UInt8) : ∀ f : Bool, rvG f (egL f s) = some s := by
  induction s with
  | nil => intro f; cases f <;> simp [egL, rvG]
  | cons c r ih =>
    intro f
    rw [egL]
    cases hb : bareN c.toNat with
    | true =>
      obtain ⟨m1, m2, m3, m4, _⟩ := hx_c c
      rw [e1_bare _ _ _ hb]
      simp only [List.cons_append, List.nil_append]
      rw [rvG_slash, rmL_two _ _ _ (by simp [m1]), if_pos ⟨m2, m3⟩, m4]
      simp only [List.drop_succ_cons, List.drop_zero]
      rw [ih false]; rfl
    | false =>
      cases hm : mkN f r.isEmpty c.toNat with
      | true =>
        rw [e1_mark _ _ _ hb hm]
        simp only [List.cons_append, List.nil_append]
        rw [rvG_slash, rmL_may _ _ (mark_may hm)]
        simp only [List.drop_succ_cons, List.drop_zero]
        rw [ih false]; rfl
      | false =>
        obtain ⟨n1, n2, n3⟩ := plain_ne hm
        rw [e1_else _ _ _ hb hm]
        simp only [List.cons_append, List.nil_append]
        by_cases h32 : c = 32
        · subst h32
          rw [rvG_blank, ih false, Option.map_some]
          have hr : r ≠ [] := by
            rintro rfl
            revert hm; cases f <;> decide
          rw [if_neg hr]
        · have h32n : c.toNat ≠ 32 := fun e => h32 (UInt8.toNat_inj.1 (by simpa using e))
          rw [mkN_last f r.isEmpty false _ h32n] at hm
          rw [rvG_else _ _ _ h32 n1 (by rw [hb, hm]; simp), ih false]; rfl
theorem es_head (s : List UInt8) : tlB (egL true s) = egL true s := by
  cases s with
  | nil => rfl
  | cons c r =>
    unfold tlB
    rw [egL]
    cases hb : bareN c.toNat with
    | true => rw [e1_bare _ _ _ hb]; rfl
    | false =>
      cases hm : mkN true r.isEmpty c.toNat with
      | true => rw [e1_mark _ _ _ hb hm]; rfl
      | false =>
        have h32 : c ≠ 32 := by rintro rfl; revert hm; cases r <;> simp [mkN]
        rw [e1_else _ _ _ hb hm, List.cons_append, List.nil_append, List.dropWhile_cons_of_neg (by simpa using h32)]
theorem lit_split : splG [44, 100, 99, 61, 120] = ([], [], [[[100, 99, 61, 120]]]) := by decide +kernel
theorem lit_dc : rpL [100, 99, 61, 120] = some ([100, 99], [120]) := by decide +kernel
theorem lit_ty : tyL (tlB (trB [99, 110])) = true ∧ tlB (trB [99, 110]) = [99, 110] := by decide +kernel
theorem lit_ok : prL [([100, 99], [120])] = true := by decide +kernel
theorem rd_es (s : List UInt8) (h0 : s ≠ []) (h : s.length ≤ 256) : rdD ([99, 110, 61] ++ esL s ++ [44, 100, 99, 61, 120]) = ([[([99, 110], s)], [([100, 99], [120])]], 0) := by
  have hl := es_len true s
  have h1 : splL ([99, 110, 61] ++ esL s ++ [44, 100, 99, 61, 120]) = [[[99, 110, 61] ++ esL s], [[100, 99, 61, 120]]] := by
    unfold splL splT esL
    rw [List.append_assoc]
    simp only [List.cons_append, List.nil_append]
    rw [splG_else _ _ (by decide) (by decide) (by decide), splG_else _ _ (by decide) (by decide) (by decide), splG_else _ _ (by decide) (by decide) (by decide), spl_es, lit_split]
    simp
  have h2 : rpL ([99, 110, 61] ++ esL s) = some ([99, 110], s) := by
    have c1 : cut1 61 ([99, 110, 61] ++ esL s) = [99, 110] := by simp [cut1]
    have c2 : cut2 61 ([99, 110, 61] ++ esL s) = esL s := by simp [cut2]
    unfold rpL
    rw [c1, c2, lit_ty.1, lit_ty.2]
    have e : rvL (esL s) = some s := by
      unfold rvL esL
      rw [es_head, rv_es]
    rw [e]
    simp [rpJ, h0]
  have h3 : rpp [[[99, 110, 61] ++ esL s], [[100, 99, 61, 120]]] = some [[([99, 110], s)], [([100, 99], [120])]] := by
    simp only [rpp, rpsL, h2, lit_dc, Option.map_some]
  rw [rdD_some _ (by simp [esL]; omega) (by simp) (by rw [h1]; exact h3)]
  have h4 : lgD [[([99, 110], s)], [([100, 99], [120])]] = false := by simp [lgD]
  have h5 : prL [([99, 110], s)] = true := by
    have : tyL [99, 110] = true := by decide +kernel
    simp [prL, pgL, avOk, twL, this, h0, h]
  have h6 : ckD [[([99, 110], s)], [([100, 99], [120])]] = 0 := by
    unfold ckD
    rw [if_neg (by simp), if_pos (by simp [h5, lit_ok])]
  rw [h4, h6]
  simp
end Go.Proofs.YtbihhdkmmlldnaaGreatDoor
