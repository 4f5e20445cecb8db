/- Parent, Leaf, Depth, Under, Join, Move, for all texts. -/
import Derived.Test.YtdmjnfadhlgpkaaGreatDoorPlB
namespace Go.Proofs.YtdmjnfadhlgpkaaGreatDoor
set_option linter.unusedSimpArgs false
set_option linter.unusedVariables false
open Go Go.RowKit Go.Proofs.BerK Go.Proofs.MemK Go.Proofs.UtfK

/-! ### The own part, and what is above -/
def owL (s : List UInt8) : List UInt8 × List UInt8 × Bool := match nrD s with | some (r :: D) => (ptL r, nmL D, true) | _ => ([], [], false)
def OwPost (p : List UInt8 × List UInt8 × Bool) (w : World) (en : Ending) (w' : World) : Prop := en = .returned (.tuple #[.string ⟨p.1.toArray⟩, .string ⟨p.2.1.toArray⟩, .bool p.2.2]) ∧ Below w.heap.size w w'
theorem owPost_mk {p : List UInt8 × List UInt8 × Bool} {a b : List UInt8} {c : Bool} {w w' : World} (h : p = (a, b, c)) (hb : Below w.heap.size w w') : OwPost p w (.returned (.tuple #[.string ⟨a.toArray⟩, .string ⟨b.toArray⟩, .bool c])) w' := by subst h; exact ⟨rfl, hb⟩
theorem ow_none {s : List UInt8} (h : nrD s = none ∨ nrD s = some []) : owL s = ([], [], false) := by unfold owL; rcases h with h | h <;> rw [h]
theorem ow_cons {s : List UInt8} {r : List Av} {D : List (List Av)} (h : nrD s = some (r :: D)) : owL s = (ptL r, nmL D, true) := by unfold owL; rw [h]
theorem par_ow (s : List UInt8) : parL s = ((owL s).2.1, (owL s).2.2) := by
  rcases nr_ways s with h | ⟨r, D, h⟩
  · rw [par_none h, ow_none h]
  · rw [par_cons h, ow_cons h]
theorem leaf_ow (s : List UInt8) : leafL s = ((owL s).1, (owL s).2.2) := by
  rcases nr_ways s with h | ⟨r, D, h⟩
  · rw [leaf_none h, ow_none h]
  · rw [leaf_cons h, ow_cons h]
set_option maxHeartbeats 1600000 in
set_option maxRecDepth 100000 in
theorem own_any (s : List UInt8) (w : World) (he : ErrOk w) : Calls Tryz.prog 19 #[.string ⟨s.toArray⟩] w (OwPost (owL s) w) := by
  by_cases h : nrD s = none
  · have HI := Lib.hid (isnorm_c s false (by rw [h]; rfl) w he)
    have HO := Lib.hid (ow_none (.inl h))
    clear h he
    go_enter Tryz.func19, Tryz.ntmps19
    go_wp2_with fail
    refine HI.out.mono ?_
    rintro e w0 ⟨rfl, hb0⟩
    go_wp2
    go_ret3
    exact owPost_mk (a := []) (b := []) (c := false) HO.out hb0
  · obtain ⟨D, h⟩ := Option.ne_none_iff_exists'.1 h
    have HI := Lib.hid (isnorm_c s true (by rw [h]; rfl) w he)
    obtain ⟨hs, hg⟩ := nr_some h
    have HP := Lib.hid (parts_any ⟨s.toArray⟩)
    change Hid (∀ w, Calls Tryz.prog _ _ w (fun e w' => e = .returned (.func (.func 33) #[] #[.pointer (some ⟨w.heap.size, 0, none⟩)]) ∧ TxAt w' w.heap.size s 9 ∧ Below w.heap.size w w')) at HP
    have hx : ∃ p q b, owL s = (p, q, b) ∧ ∀ B w, TxAt w B s 9 → Calls Tryz.prog 33 #[.pointer (some ⟨B, 0, none⟩)] w (NxPost p q b B 9 w) := by
      cases D with
      | nil => exact ⟨[], [], false, ow_none (.inr h), fun B w ht => nx_nil B w (by rw [hs] at ht; exact ht)⟩
      | cons r D => exact ⟨_, _, true, ow_cons h, fun B w ht => nx_cons r D hg B w (by rw [hs] at ht; exact ht)⟩
    obtain ⟨p, q, b, hx1, hx2⟩ := hx
    have HX1 := Lib.hid hx1
    have HX2 := Lib.hid hx2
    clear hx1 hx2 hs hg h he
    go_enter Tryz.func19, Tryz.ntmps19
    go_wp2_with fail
    refine HI.out.mono ?_
    rintro e w0 ⟨rfl, hb0⟩
    have H0 := Lib.hid hb0
    clear hb0
    go_wp2_with fail
    refine (HP.out w0).mono ?_
    rintro e w1 ⟨rfl, ht, hb⟩
    have HC := Lib.hid (HX2.out _ _ ht)
    have H1 := Lib.hid (And.intro H0.out.size (H0.out.trans (hb.mono H0.out.size)))
    clear ht hb
    go_wp2_with fail
    refine HC.out.mono ?_
    rintro e w2 ⟨rfl, ht2, hc2⟩
    have H2 := Lib.hid (chg_below (Nat.le_refl _) H1.out.2 H1.out.1 hc2)
    clear ht2 hc2
    go_wp2
    go_ret3
    exact owPost_mk HX1.out H2.out
set_option maxHeartbeats 800000 in
theorem parent_any (s : List UInt8) (w : World) (he : ErrOk w) : Calls Tryz.prog 7 #[.string ⟨s.toArray⟩] w (SbPost (parL s) w) := by
  have HO := Lib.hid (own_any s w he)
  have HE := Lib.hid (par_ow s)
  obtain ⟨x, hx⟩ : ∃ x, owL s = x := ⟨_, rfl⟩
  rw [hx] at HO HE
  obtain ⟨p, q, b⟩ := x
  clear hx he
  go_enter Tryz.func7, Tryz.ntmps7
  go_wp2_with fail
  refine HO.out.mono ?_
  rintro e w0 ⟨rfl, hb0⟩
  go_wp2
  go_ret2
  exact sbPost_mk HE.out hb0
set_option maxHeartbeats 800000 in
theorem leaf_any (s : List UInt8) (w : World) (he : ErrOk w) : Calls Tryz.prog 9 #[.string ⟨s.toArray⟩] w (SbPost (leafL s) w) := by
  have HO := Lib.hid (own_any s w he)
  have HE := Lib.hid (leaf_ow s)
  obtain ⟨x, hx⟩ : ∃ x, owL s = x := ⟨_, rfl⟩
  rw [hx] at HO HE
  obtain ⟨p, q, b⟩ := x
  clear hx he
  go_enter Tryz.func9, Tryz.ntmps9
  go_wp2_with fail
  refine HO.out.mono ?_
  rintro e w0 ⟨rfl, hb0⟩
  go_wp2
  go_ret2
  exact sbPost_mk HE.out hb0

/-! ### Depth, Under -/
def DepPost (n : Int) (w : World) (en : Ending) (w' : World) : Prop := en = .returned (.int .i64 n) ∧ Below w.heap.size w w'
theorem depPost_mk {n m : Int} {w w' : World} (h : n = m) (hb : Below w.heap.size w w') : DepPost n w (.returned (.int .i64 m)) w' := by subst h; exact ⟨rfl, hb⟩
set_option maxHeartbeats 800000 in
theorem depth_any (s : List UInt8) (w : World) (he : ErrOk w) : Calls Tryz.prog 15 #[.string ⟨s.toArray⟩] w (DepPost (depL s) w) := by
  by_cases h : nrD s = none
  · have HI := Lib.hid (isnorm_c s false (by rw [h]; rfl) w he)
    have HO := Lib.hid (dep_none h)
    clear h he
    go_enter Tryz.func15, Tryz.ntmps15
    go_wp2_with fail
    refine HI.out.mono ?_
    rintro e w0 ⟨rfl, hb0⟩
    go_wp2
    go_ret
    exact depPost_mk HO.out hb0
  · obtain ⟨D, h⟩ := Option.ne_none_iff_exists'.1 h
    have HI := Lib.hid (isnorm_c s true (by rw [h]; rfl) w he)
    obtain ⟨hs, hg⟩ := nr_some h
    have HO := Lib.hid (dep_some h)
    have HC := Lib.hid (count_any D hg)
    rw [← hs] at HC
    clear h hs hg he
    go_enter Tryz.func15, Tryz.ntmps15
    go_wp2_with fail
    refine HI.out.mono ?_
    rintro e w0 ⟨rfl, hb0⟩
    have H0 := Lib.hid hb0
    clear hb0
    go_wp2_with fail
    refine (HC.out w0).mono ?_
    rintro e w1 ⟨rfl, hb1⟩
    have H1 := Lib.hid (H0.out.trans (hb1.mono H0.out.size))
    clear hb1
    go_wp2
    go_ret
    exact depPost_mk HO.out H1.out
theorem und_ah {s b : List UInt8} {D : List (List Av)} (h : nrD s = some D) : undL s b = (ahO (ahL D b)).2 := by
  unfold undL
  rw [h]
  simp only
  cases ahL D b <;> rfl
theorem und_none {s b : List UInt8} (h : nrD s = none) : undL s b = false := by unfold undL; rw [h]
theorem ah_of (s b : List UInt8) (w : World) (he : ErrOk w) : ∃ p c, undL s b = c ∧ Calls Tryz.prog 24 #[.string ⟨s.toArray⟩, .string ⟨b.toArray⟩] w (SbPost (p, c) w) := by
  by_cases h : nrD s = none
  · exact ⟨[], false, und_none h, ahead_none s b h w he⟩
  · obtain ⟨D, h⟩ := Option.ne_none_iff_exists'.1 h
    exact ⟨(ahO (ahL D b)).1, (ahO (ahL D b)).2, und_ah h, ahead_some s b D h w he⟩
set_option maxHeartbeats 800000 in
theorem under_any (s b : List UInt8) (w : World) (he : ErrOk w) : Calls Tryz.prog 17 #[.string ⟨s.toArray⟩, .string ⟨b.toArray⟩] w (BoolPost (undL s b) w) := by
  obtain ⟨p, c, h1, h2⟩ := ah_of s b w he
  have HA := Lib.hid h2
  rw [h1]
  clear h1 h2 he
  go_enter Tryz.func17, Tryz.ntmps17
  go_wp2_with fail
  refine HA.out.mono ?_
  rintro e w0 ⟨rfl, hb0⟩
  go_wp2
  go_ret
  exact boolPost_mk rfl hb0

/-! ### Join, Move -/
theorem join_no {r a : List UInt8} (h : depL r ≠ 1 ∨ nrD a = none) : joinL r a = ([], 13) := by
  unfold joinL
  rcases h with h | h
  · split
    · rename_i x hx; rw [dep_some hx] at h; exact absurd rfl h
    · rfl
  · split
    · rw [h]
    · rfl
theorem dep_one {r : List UInt8} (h : depL r = 1) : ∃ x, nrD r = some [x] := by
  unfold depL at h
  split at h
  · cases h
  · rename_i D hD
    match D, h, hD with
    | [x], _, hD => exact ⟨x, hD⟩
    | [], h, _ => simp at h
    | x :: y :: D, h, _ => simp at h; omega
def jnO : Option (List UInt8) → List UInt8 × Nat | none => ([], 3) | some y => (y, 0)
theorem join_yes {r a : List UInt8} {x : List Av} {E : List (List Av)} (h1 : nrD r = some [x]) (h2 : nrD a = some E) : joinL r a = jnO (joL [x] E) := by
  unfold joinL
  rw [h1, h2]
  simp only
  cases joL [x] E <;> rfl
set_option maxHeartbeats 1600000 in
set_option maxRecDepth 100000 in
theorem join_any (r a : List UInt8) (w : World) (he : ErrOk w) : Calls Tryz.prog 11 #[.string ⟨r.toArray⟩, .string ⟨a.toArray⟩] w (PutPost (joinL r a) w) := by
  have HD := Lib.hid (depth_any r w he)
  have HE := Lib.hid he
  by_cases h1 : depL r = 1
  · rw [h1] at HD
    by_cases h2 : nrD a = none
    · have HI := Lib.hid (fun w he => isnorm_c a false (by rw [h2]; rfl) w he)
      have HR := Lib.hid (join_no (r := r) (.inr h2))
      clear h1 h2 he
      go_enter Tryz.func11, Tryz.ntmps11
      go_wp2_with fail
      refine HD.out.mono ?_
      rintro e w0 ⟨rfl, hb0⟩
      have HI2 := Lib.hid (HI.out w0 (errOk_below HE.out hb0))
      have H0 := Lib.hid hb0
      clear hb0
      go_wp2_with fail
      refine HI2.out.mono ?_
      rintro e w1 ⟨rfl, hb1⟩
      have H1 := Lib.hid (H0.out.trans (hb1.mono H0.out.size))
      clear hb1
      go_wp2
      go_ret2
      exact putPost_mk (a := []) (n := 13) HR.out H1.out
    · obtain ⟨E, h2⟩ := Option.ne_none_iff_exists'.1 h2
      have HI := Lib.hid (fun w he => isnorm_c a true (by rw [h2]; rfl) w he)
      obtain ⟨x, h3⟩ := dep_one h1
      have HR := Lib.hid (join_yes h3 h2)
      have HJ := Lib.hid (pjoin_any [x] E (nr_some h3).2 (nr_some h2).2)
      rw [← (nr_some h3).1, ← (nr_some h2).1] at HJ
      obtain ⟨o, ho⟩ : ∃ o, joL [x] E = o := ⟨_, rfl⟩
      rw [ho] at HJ HR
      clear ho h1 h2 h3 he
      cases o with
      | none =>
        change Hid (∀ w, Calls Tryz.prog _ _ w (SbPost ([], false) w)) at HJ
        go_enter Tryz.func11, Tryz.ntmps11
        go_wp2_with fail
        refine HD.out.mono ?_
        rintro e w0 ⟨rfl, hb0⟩
        have HI2 := Lib.hid (HI.out w0 (errOk_below HE.out hb0))
        have H0 := Lib.hid hb0
        clear hb0
        go_wp2_with fail
        refine HI2.out.mono ?_
        rintro e w1 ⟨rfl, hb1⟩
        have H1 := Lib.hid (H0.out.trans (hb1.mono H0.out.size))
        clear hb1
        go_wp2_with fail
        refine (HJ.out _).mono ?_
        rintro e w2 ⟨rfl, hb2⟩
        have H2 := Lib.hid (H1.out.trans (hb2.mono H1.out.size))
        clear hb2
        go_wp2
        go_ret2
        exact putPost_mk (a := []) (n := 3) HR.out H2.out
      | some y =>
        change Hid (∀ w, Calls Tryz.prog _ _ w (SbPost (y, true) w)) at HJ
        go_enter Tryz.func11, Tryz.ntmps11
        go_wp2_with fail
        refine HD.out.mono ?_
        rintro e w0 ⟨rfl, hb0⟩
        have HI2 := Lib.hid (HI.out w0 (errOk_below HE.out hb0))
        have H0 := Lib.hid hb0
        clear hb0
        go_wp2_with fail
        refine HI2.out.mono ?_
        rintro e w1 ⟨rfl, hb1⟩
        have H1 := Lib.hid (H0.out.trans (hb1.mono H0.out.size))
        clear hb1
        go_wp2_with fail
        refine (HJ.out _).mono ?_
        rintro e w2 ⟨rfl, hb2⟩
        have H2 := Lib.hid (H1.out.trans (hb2.mono H1.out.size))
        clear hb2
        go_wp2
        go_ret2
        exact putPost_mk (n := 0) HR.out H2.out
  · have hq : (depL r != 1) = true := by rw [bne_iff_ne]; exact h1
    have HR := Lib.hid (join_no (a := a) (.inl h1))
    obtain ⟨n, hn⟩ : ∃ n, depL r = n := ⟨_, rfl⟩
    rw [hn] at HD hq
    clear h1 hn he
    go_enter Tryz.func11, Tryz.ntmps11
    go_wp2_with fail
    refine HD.out.mono ?_
    rintro e w0 ⟨rfl, hb0⟩
    have H0 := Lib.hid hb0
    clear hb0
    go_wp2
    go_ret2
    exact putPost_mk (a := []) (n := 13) HR.out H0.out
theorem mov_none {s f t : List UInt8} (h : undL s f = false ∨ nrD t = none) : movL s f t = none := by
  unfold movL
  cases h1 : nrD s with
  | none => rfl
  | some D =>
    simp only
    cases h2 : ahL D f with
    | none => rfl
    | some P =>
      simp only
      rcases h with h | h
      · unfold undL at h; rw [h1] at h; simp only at h; rw [h2] at h; cases h
      · rw [h]
theorem mov_some {s f t : List UInt8} {D P E : List (List Av)} (h1 : nrD s = some D) (h2 : ahL D f = some P) (h3 : nrD t = some E) : movL s f t = joL P E := by
  unfold movL; rw [h1]; simp only; rw [h2]; simp only; rw [h3]
set_option maxHeartbeats 1600000 in
set_option maxRecDepth 100000 in
theorem move_any (s f t : List UInt8) (w : World) (he : ErrOk w) : Calls Tryz.prog 13 #[.string ⟨s.toArray⟩, .string ⟨f.toArray⟩, .string ⟨t.toArray⟩] w (SbPost (obL (movL s f t)) w) := by
  have HE := Lib.hid he
  by_cases hu : undL s f = false
  · obtain ⟨p, c, h1, h2⟩ := ah_of s f w he
    rw [hu] at h1
    subst h1
    have HA := Lib.hid h2
    have HR := Lib.hid (mov_none (t := t) (.inl hu))
    clear h2 hu he
    go_enter Tryz.func13, Tryz.ntmps13
    go_wp2_with fail
    refine HA.out.mono ?_
    rintro e w0 ⟨rfl, hb0⟩
    go_wp2
    go_ret2
    exact sbPost_mk (a := []) (b := false) (by rw [HR.out]; rfl) hb0
  · have hu2 : undL s f = true := by simpa using hu
    obtain ⟨D, hD⟩ : ∃ D, nrD s = some D := by
      cases h : nrD s with
      | none => rw [und_none h] at hu2; cases hu2
      | some D => exact ⟨D, rfl⟩
    obtain ⟨P, hP⟩ : ∃ P, ahL D f = some P := by
      rw [und_ah hD] at hu2
      cases h : ahL D f with
      | none => rw [h] at hu2; cases hu2
      | some P => exact ⟨P, rfl⟩
    obtain ⟨F, hF, _⟩ := ah_some hP
    have hgP : GD P := (gd_sub (E := F) (by rw [← hF]; exact (nr_some hD).2)).1
    have h2 := ahead_some s f D hD w he
    rw [hP] at h2
    have HA := Lib.hid h2
    change Hid (Calls Tryz.prog _ _ w (SbPost (nmL P, true) w)) at HA
    by_cases ht : nrD t = none
    · have HI := Lib.hid (fun w he => isnorm_c t false (by rw [ht]; rfl) w he)
      have HR := Lib.hid (mov_none (s := s) (f := f) (.inr ht))
      clear h2 hu hu2 hD hP hF hgP ht he
      go_enter Tryz.func13, Tryz.ntmps13
      go_wp2_with fail
      refine HA.out.mono ?_
      rintro e w0 ⟨rfl, hb0⟩
      have HI2 := Lib.hid (HI.out w0 (errOk_below HE.out hb0))
      have H0 := Lib.hid hb0
      clear hb0
      go_wp2_with fail
      refine HI2.out.mono ?_
      rintro e w1 ⟨rfl, hb1⟩
      have H1 := Lib.hid (H0.out.trans (hb1.mono H0.out.size))
      clear hb1
      go_wp2
      go_ret2
      exact sbPost_mk (a := []) (b := false) (by rw [HR.out]; rfl) H1.out
    · obtain ⟨E, hE⟩ := Option.ne_none_iff_exists'.1 ht
      have HI := Lib.hid (fun w he => isnorm_c t true (by rw [hE]; rfl) w he)
      have HR := Lib.hid (mov_some hD hP hE)
      have HJ := Lib.hid (pjoin_any P E hgP (nr_some hE).2)
      rw [← (nr_some hE).1] at HJ
      obtain ⟨o, ho⟩ : ∃ o, obL (joL P E) = o := ⟨_, rfl⟩
      have HR2 := Lib.hid (show obL (movL s f t) = o by rw [HR.out, ho])
      rw [ho] at HJ
      obtain ⟨y, b⟩ := o
      obtain ⟨N, hN⟩ : ∃ N, nmL P = N := ⟨_, rfl⟩
      rw [hN] at HA HJ
      clear h2 hu hu2 hD hP hF hgP ht hE ho HR hN he
      go_enter Tryz.func13, Tryz.ntmps13
      go_wp2_with fail
      refine HA.out.mono ?_
      rintro e w0 ⟨rfl, hb0⟩
      have HI2 := Lib.hid (HI.out w0 (errOk_below HE.out hb0))
      have H0 := Lib.hid hb0
      clear hb0
      go_wp2_with fail
      refine HI2.out.mono ?_
      rintro e w1 ⟨rfl, hb1⟩
      have H1 := Lib.hid (H0.out.trans (hb1.mono H0.out.size))
      clear hb1
      go_wp2_with fail
      refine (HJ.out _).mono ?_
      rintro e w2 ⟨rfl, hb2⟩
      have H2 := Lib.hid (H1.out.trans (hb2.mono H1.out.size))
      clear hb2
      go_wp2
      go_ret2
      exact sbPost_mk HR2.out H2.out
end Go.Proofs.YtdmjnfadhlgpkaaGreatDoor
