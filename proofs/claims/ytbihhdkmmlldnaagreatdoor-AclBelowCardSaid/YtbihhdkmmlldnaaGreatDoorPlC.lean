/- Parent, Leaf, Depth, Under, Join, Move, for all texts. -/
import Derived.Test.YtbihhdkmmlldnaaGreatDoorPlAB
namespace Go.Proofs.YtbihhdkmmlldnaaGreatDoor
set_option linter.unusedSimpArgs false
set_option linter.unusedVariables false
open Go Go.RowKit Go.Proofs.BerK Go.Proofs.MemK Go.Proofs.UtfK

/-! ### The own part, and what is above -/
def owL (s : List UInt8) : List UInt8 × List UInt8 × Bool := match nrD s with | some (r :: D) => (ptL r, nmL D, true) | _ => ([], [], false)
def OwPost (p : List UInt8 × List UInt8 × Bool) (w : World) (en : Ending) (w' : World) : Prop := en = .returned (.tuple #[.string ⟨p.1.toArray⟩, .string ⟨p.2.1.toArray⟩, .bool p.2.2]) ∧ Below w.heap.size w w'
theorem owPost_mk {p : List UInt8 × List UInt8 × Bool} {a b : List UInt8} {c : Bool} {w w' : World} (h : p = (a, b, c)) (hb : Below w.heap.size w w') : OwPost p w (.returned (.tuple #[.string ⟨a.toArray⟩, .string ⟨b.toArray⟩, .bool c])) w' := by subst h; exact ⟨rfl, hb⟩
theorem ow_none {s : List UInt8} (h : nrD s = none ∨ nrD s = some []) : owL s = ([], [], false) := by unfold owL; rcases h with h | h <;> rw [h]
theorem ow_cons {s : List UInt8} {r : List Av} {D : List (List Av)} (h : nrD s = some (r :: D)) : owL s = (ptL r, nmL D, true) := by unfold owL; rw [h]
theorem par_ow (s : List UInt8) : parL s = ((owL s).2.1, (owL s).2.2) := by
  rcases nr_ways s with h | ⟨r, D, h⟩
  · rw [par_none h, ow_none h]
  · rw [par_cons h, ow_cons h]
theorem leaf_ow (s : List UInt8) : leafL s = ((owL s).1, (owL s).2.2) := by
  rcases nr_ways s with h | ⟨r, D, h⟩
  · rw [leaf_none h, ow_none h]
  · rw [leaf_cons h, ow_cons h]
/-! ### Depth, Under -/
def DepPost (n : Int) (w : World) (en : Ending) (w' : World) : Prop := en = .returned (.int .i64 n) ∧ Below w.heap.size w w'
theorem depPost_mk {n m : Int} {w w' : World} (h : n = m) (hb : Below w.heap.size w w') : DepPost n w (.returned (.int .i64 m)) w' := by subst h; exact ⟨rfl, hb⟩
set_option maxHeartbeats 800000 in
theorem depth_any (s : List UInt8) (w : World) (he : ErrOk w) : Calls Tryz.prog 59 #[.string ⟨s.toArray⟩] w (DepPost (depL s) w) := by
  by_cases h : nrD s = none
  · have HI := Lib.hid (isnorm_c s false (by rw [h]; rfl) w he)
    have HO := Lib.hid (dep_none h)
    clear h he
    go_enter Tryz.func59, Tryz.ntmps59
    go_wp2_with fail
    refine HI.out.mono ?_
    rintro e w0 ⟨rfl, hb0⟩
    go_wp2
    go_ret
    exact depPost_mk HO.out hb0
  · obtain ⟨D, h⟩ := Option.ne_none_iff_exists'.1 h
    have HI := Lib.hid (isnorm_c s true (by rw [h]; rfl) w he)
    obtain ⟨hs, hg⟩ := nr_some h
    have HO := Lib.hid (dep_some h)
    have HC := Lib.hid (count_any D hg)
    rw [← hs] at HC
    clear h hs hg he
    go_enter Tryz.func59, Tryz.ntmps59
    go_wp2_with fail
    refine HI.out.mono ?_
    rintro e w0 ⟨rfl, hb0⟩
    have H0 := Lib.hid hb0
    clear hb0
    go_wp2_with fail
    refine (HC.out w0).mono ?_
    rintro e w1 ⟨rfl, hb1⟩
    have H1 := Lib.hid (H0.out.trans (hb1.mono H0.out.size))
    clear hb1
    go_wp2
    go_ret
    exact depPost_mk HO.out H1.out
theorem und_ah {s b : List UInt8} {D : List (List Av)} (h : nrD s = some D) : undL s b = (ahO (ahL D b)).2 := by
  unfold undL
  rw [h]
  simp only
  cases ahL D b <;> rfl
theorem und_none {s b : List UInt8} (h : nrD s = none) : undL s b = false := by unfold undL; rw [h]
theorem ah_of (s b : List UInt8) (w : World) (he : ErrOk w) : ∃ p c, undL s b = c ∧ Calls Tryz.prog 36 #[.string ⟨s.toArray⟩, .string ⟨b.toArray⟩] w (SbPost (p, c) w) := by
  by_cases h : nrD s = none
  · exact ⟨[], false, und_none h, ahead_none s b h w he⟩
  · obtain ⟨D, h⟩ := Option.ne_none_iff_exists'.1 h
    exact ⟨(ahO (ahL D b)).1, (ahO (ahL D b)).2, und_ah h, ahead_some s b D h w he⟩
set_option maxHeartbeats 800000 in
theorem under_any (s b : List UInt8) (w : World) (he : ErrOk w) : Calls Tryz.prog 17 #[.string ⟨s.toArray⟩, .string ⟨b.toArray⟩] w (BoolPost (undL s b) w) := by
  obtain ⟨p, c, h1, h2⟩ := ah_of s b w he
  have HA := Lib.hid h2
  rw [h1]
  clear h1 h2 he
  go_enter Tryz.func17, Tryz.ntmps17
  go_wp2_with fail
  refine HA.out.mono ?_
  rintro e w0 ⟨rfl, hb0⟩
  go_wp2
  go_ret
  exact boolPost_mk rfl hb0

/-! ### Join, Move -/
theorem join_no {r a : List UInt8} (h : depL r ≠ 1 ∨ nrD a = none) : joinL r a = ([], 13) := by
  unfold joinL
  rcases h with h | h
  · split
    · rename_i x hx; rw [dep_some hx] at h; exact absurd rfl h
    · rfl
  · split
    · rw [h]
    · rfl
theorem dep_one {r : List UInt8} (h : depL r = 1) : ∃ x, nrD r = some [x] := by
  unfold depL at h
  split at h
  · cases h
  · rename_i D hD
    match D, h, hD with
    | [x], _, hD => exact ⟨x, hD⟩
    | [], h, _ => simp at h
    | x :: y :: D, h, _ => simp at h; omega
def jnO : Option (List UInt8) → List UInt8 × Nat | none => ([], 3) | some y => (y, 0)
theorem join_yes {r a : List UInt8} {x : List Av} {E : List (List Av)} (h1 : nrD r = some [x]) (h2 : nrD a = some E) : joinL r a = jnO (joL [x] E) := by
  unfold joinL
  rw [h1, h2]
  simp only
  cases joL [x] E <;> rfl
theorem mov_none {s f t : List UInt8} (h : undL s f = false ∨ nrD t = none) : movL s f t = none := by
  unfold movL
  cases h1 : nrD s with
  | none => rfl
  | some D =>
    simp only
    cases h2 : ahL D f with
    | none => rfl
    | some P =>
      simp only
      rcases h with h | h
      · unfold undL at h; rw [h1] at h; simp only at h; rw [h2] at h; cases h
      · rw [h]
theorem mov_some {s f t : List UInt8} {D P E : List (List Av)} (h1 : nrD s = some D) (h2 : ahL D f = some P) (h3 : nrD t = some E) : movL s f t = joL P E := by
  unfold movL; rw [h1]; simp only; rw [h2]; simp only; rw [h3]
end Go.Proofs.YtbihhdkmmlldnaaGreatDoor
