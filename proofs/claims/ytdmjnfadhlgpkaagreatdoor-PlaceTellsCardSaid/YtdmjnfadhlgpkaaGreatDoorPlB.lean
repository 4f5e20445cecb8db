/- Whether a text is normal, how many parts it has, what stands ahead, names joined. -/
import Derived.Test.YtdmjnfadhlgpkaaGreatDoorPlA
import Derived.Test.YtdmjnfadhlgpkaaGreatDoorPlMN
namespace Go.Proofs.YtdmjnfadhlgpkaaGreatDoor
set_option linter.unusedSimpArgs false
set_option linter.unusedVariables false
open Go Go.RowKit Go.Proofs.BerK Go.Proofs.MemK Go.Proofs.UtfK

/-! ### isNormal -/
theorem nr_is (s : List UInt8) (X : List UInt8) (n : Nat) (h : noD s = (X, n)) : (nrD s).isSome = (decide (n = 0) && (X == s)) := by
  unfold nrD
  rw [h]
  by_cases h1 : n = 0
  · by_cases h2 : X = s
    · subst h1 h2; simp
    · have : ((X, n) : List UInt8 × Nat) ≠ (s, 0) := fun e => h2 (Prod.mk.inj e).1
      rw [if_neg this]; simp [h2]
  · have : ((X, n) : List UInt8 × Nat) ≠ (s, 0) := fun e => h1 (Prod.mk.inj e).2
    rw [if_neg this]; simp [h1]
set_option maxHeartbeats 1600000 in
set_option maxRecDepth 100000 in
theorem isnorm_any (s : ByteArray) (w : World) (he : ErrOk w) : Calls Tryz.prog 22 #[.string s] w (BoolPost (nrD s.data.toList).isSome w) := by
  have HN := Lib.hid (dnorm_any s w he)
  have HI := Lib.hid (nr_is s.data.toList)
  obtain ⟨p, hp⟩ : ∃ p, noD s.data.toList = p := ⟨_, rfl⟩
  rw [hp] at HN HI
  obtain ⟨X, n⟩ := p
  clear he hp
  have H := Lib.hid (HI.out X n rfl)
  clear HI
  by_cases hn : n = 0
  · subst hn
    go_enter Tryz.func22, Tryz.ntmps22
    go_wp2_with fail
    refine HN.out.mono ?_
    rintro e w2 ⟨rfl, hb⟩
    go_wp2
    go_ret
    refine boolPost_mk ?_ hb
    rw [H.out]
    simp [ByteArray.toList_eq]
  · have hq : ((n : Int) == 0) = false := by rw [beq_eq_false_iff_ne]; omega
    have HF := Lib.hid (show (nrD s.data.toList).isSome = false by rw [H.out]; simp [hn])
    clear hn H
    go_enter Tryz.func22, Tryz.ntmps22
    go_wp2_with fail
    refine HN.out.mono ?_
    rintro e w2 ⟨rfl, hb⟩
    go_wp2
    go_ret
    exact boolPost_mk HF.out hb
theorem isnorm_c (s : List UInt8) (b : Bool) (h : (nrD s).isSome = b) (w : World) (he : ErrOk w) : Calls Tryz.prog 22 #[.string ⟨s.toArray⟩] w (BoolPost b w) := by
  have := isnorm_any ⟨s.toArray⟩ w he
  rw [← h]; exact this

/-! ### count -/
theorem gd_drop {D : List (List Av)} (h : GD D) (k : Nat) : GD (D.drop k) := (gd_sub (P := D.take k) (by rw [List.take_append_drop]; exact h)).2
theorem gd_take {D : List (List Av)} (h : GD D) (k : Nat) : GD (D.take k) := (gd_sub (P := D.take k) (E := D.drop k) (by rw [List.take_append_drop]; exact h)).1
theorem chg_below {b B : Nat} {w0 w w' : World} (hw : B ≤ w0.heap.size) (hb : Below B w0 w) (hB : B ≤ b) (h : Chg (fun k => k = b) w w') : Below B w0 w' :=
  hb.trans (h.toBelow (Nat.le_trans hw hb.size) (fun k _ e => e ▸ hB))
set_option maxHeartbeats 1600000 in
set_option maxRecDepth 100000 in
theorem count_any (D : List (List Av)) (hg : GD D) (w : World) : Calls Tryz.prog 25 #[.string ⟨(nmL D).toArray⟩] w (NumPost D.length w) := by
  have HP := Lib.hid (parts_any ⟨(nmL D).toArray⟩ w)
  have HG := Lib.hid hg
  have hl : D.length ≤ 32 := hg.1
  clear hg
  go_enter Tryz.func25, Tryz.ntmps25
  go_wp2_with fail
  refine HP.out.mono ?_
  rintro e w1 ⟨rfl, ht, hb⟩
  change TxAt w1 w.heap.size (nmL D) 9 at ht
  obtain ⟨B, hB⟩ : ∃ B, w.heap.size = B := ⟨_, rfl⟩
  rw [hB] at ht hb ⊢
  have H := Lib.hid (And.intro ht hb)
  clear ht hb
  go_wp2
  go_loopw [3] (fun v wr => ∃ k : Nat, k ≤ D.length ∧ v = .int .i64 (k : Nat) ∧ TxAt wr B (nmL (D.drop k)) 9 ∧ Below B w wr) (fun v _ => D.length - (intOf v).toNat)
  case atStart => exact ⟨0, by omega, rfl, H.out.1, H.out.2⟩
  case round =>
    obtain ⟨k, hk, rfl, ht, hb⟩ := hrel
    by_cases hlt : k < D.length
    · have hd := drop_at D k hlt
      have hg2 := gd_drop HG.out k
      rw [hd] at ht hg2
      have HC := Lib.hid (nx_cons _ _ hg2 B wr ht)
      have HB := Lib.hid hb
      clear hd hg2 ht hb
      go_wp2_with fail
      refine HC.out.mono ?_
      rintro e w2 ⟨rfl, ht2, hc2⟩
      have H2 := Lib.hid (And.intro ht2 (chg_below (by omega) HB.out (Nat.le_refl _) hc2))
      clear ht2 hc2
      go_wp2
      exact ⟨⟨k + 1, by omega, by go_num, H2.out.1, H2.out.2⟩, by simp [intOf]; omega⟩
    · obtain rfl : k = D.length := by omega
      rw [List.drop_length] at ht
      have HC := Lib.hid (nx_nil B wr ht)
      have HB := Lib.hid hb
      clear ht hb
      go_wp2_with fail
      refine HC.out.mono ?_
      rintro e w2 ⟨rfl, ht2, hc2⟩
      have H2 := Lib.hid (chg_below (by omega) HB.out (Nat.le_refl _) hc2)
      clear ht2 hc2
      go_wp2
      go_ret
      exact numPost_mk rfl (by rw [hB]; exact H2.out)

/-! ### join -/
def obL : Option (List UInt8) → List UInt8 × Bool | none => ([], false) | some y => (y, true)
/-- What hands back a text, and whether there is one. -/
def SbPost (p : List UInt8 × Bool) (w : World) (en : Ending) (w' : World) : Prop := en = .returned (.tuple #[.string ⟨p.1.toArray⟩, .bool p.2]) ∧ Below w.heap.size w w'
theorem sbPost_mk {p : List UInt8 × Bool} {a : List UInt8} {b : Bool} {w w' : World} (h : p = (a, b)) (hb : Below w.heap.size w w') : SbPost p w (.returned (.tuple #[.string ⟨a.toArray⟩, .bool b])) w' := by subst h; exact ⟨rfl, hb⟩
theorem jo_no {P E : List (List Av)} (h : 32 < P.length + E.length ∨ 4096 < (nmL (P ++ E)).length) : joL P E = none := by unfold joL; rw [if_pos h]
theorem jo_yes {P E : List (List Av)} (h : ¬ (32 < P.length + E.length ∨ 4096 < (nmL (P ++ E)).length)) : joL P E = some (nmL (P ++ E)) := by unfold joL; rw [if_neg h]
set_option maxHeartbeats 1600000 in
set_option maxRecDepth 100000 in
theorem pjoin_any (P E : List (List Av)) (hP : GD P) (hE : GD E) (w : World) : Calls Tryz.prog 23 #[.string ⟨(nmL P).toArray⟩, .string ⟨(nmL E).toArray⟩] w (SbPost (obL (joL P E)) w) := by
  have HC := Lib.hid (chain_any (nmL P) (nmL E) (by have := hP.2.2; omega) (by have := hE.2.2; omega) w)
  rw [← nm_app (fun r hr => nr_ne (hP.2.1 r hr)) (fun r hr => nr_ne (hE.2.1 r hr))] at HC
  have HP := Lib.hid (count_any P hP)
  have HE := Lib.hid (count_any E hE)
  have hl1 := hP.1
  have hl2 := hE.1
  have HN := Lib.hid (jo_no (P := P) (E := E))
  have HY := Lib.hid (jo_yes (P := P) (E := E))
  obtain ⟨y, hy⟩ : ∃ y, nmL (P ++ E) = y := ⟨_, rfl⟩
  rw [hy] at HC HN HY
  clear hP hE hy
  obtain ⟨m, hm⟩ : ∃ m, P.length = m := ⟨_, rfl⟩
  obtain ⟨n, hn⟩ : ∃ n, E.length = n := ⟨_, rfl⟩
  rw [hm] at HP HN HY hl1
  rw [hn] at HE HN HY hl2
  clear hm hn
  go_enter Tryz.func23, Tryz.ntmps23
  go_wp2_with fail
  refine HC.out.mono ?_
  rintro e w1 ⟨rfl, hw⟩
  obtain rfl := hw.symm
  go_wp2_with fail
  refine (HP.out _).mono ?_
  rintro e w2 ⟨rfl, hb2⟩
  have H2 := Lib.hid hb2
  clear hb2
  go_wp2_with fail
  refine (HE.out _).mono ?_
  rintro e w3 ⟨rfl, hb3⟩
  have H3 := Lib.hid (H2.out.trans (hb3.mono H2.out.size))
  clear hb3
  by_cases h1 : 32 < m + n
  · have q : (32 : Int) < (m : Int) + (n : Int) := by omega
    have HR := Lib.hid (HN.out (.inl h1))
    clear h1
    go_wp2
    go_ret2
    exact sbPost_mk (a := []) (b := false) (by rw [HR.out]; rfl) H3.out
  · have q : (m : Int) + (n : Int) ≤ 32 := by omega
    by_cases h2 : 4096 < y.length
    · have q2 : (4096 : Int) < (y.length : Int) := by omega
      have HR := Lib.hid (HN.out (.inr h2))
      clear h1 h2
      go_wp2
      go_ret2
      exact sbPost_mk (a := []) (b := false) (by rw [HR.out]; rfl) H3.out
    · have q2 : (y.length : Int) ≤ 4096 := by omega
      have HR := Lib.hid (HY.out (by omega))
      clear h1 h2
      go_wp2
      go_ret2
      exact sbPost_mk (by rw [HR.out]; rfl) H3.out

/-! ### ahead -/
theorem ah_nil (b : List UInt8) : ahL [] b = if b = [] then some [] else none := rfl
theorem ah_cons (r : List Av) (D : List (List Av)) (b : List UInt8) : ahL (r :: D) b = if nmL (r :: D) = b then some [] else (ahL D b).map (r :: ·) := rfl
theorem ah_stop {D : List (List Av)} {b : List UInt8} (h : nmL D = b) : ahL D b = some [] := by
  cases D with
  | nil => rw [ah_nil, if_pos (show b = [] from h.symm)]
  | cons r D => rw [ah_cons, if_pos h]
theorem ah_none {b : List UInt8} (h : nmL [] ≠ b) : ahL [] b = none := by rw [ah_nil, if_neg (fun e => h (by rw [e]; rfl))]
theorem ah_step {D : List (List Av)} {b : List UInt8} {k : Nat} (hk : k < D.length) (h : nmL (D.drop k) ≠ b) : (ahL (D.drop k) b).map (D.take k ++ ·) = (ahL (D.drop (k + 1)) b).map (D.take (k + 1) ++ ·) := by
  rw [drop_at D k hk] at h ⊢
  rw [ah_cons, if_neg h, Option.map_map, List.take_succ_eq_append_getElem hk]
  congr 1
  funext P
  show D.take k ++ (D[k] :: P) = (D.take k ++ [D[k]]) ++ P
  rw [List.append_assoc]; rfl
def ahO (o : Option (List (List Av))) : List UInt8 × Bool := match o with | none => ([], false) | some P => (nmL P, true)
set_option maxHeartbeats 3200000 in
set_option maxRecDepth 100000 in
theorem ahead_some (s b : List UInt8) (D : List (List Av)) (h : nrD s = some D) (w : World) (he : ErrOk w) : Calls Tryz.prog 24 #[.string ⟨s.toArray⟩, .string ⟨b.toArray⟩] w (SbPost (ahO (ahL D b)) w) := by
  have HI := Lib.hid (isnorm_c s true (by rw [h]; rfl) w he)
  obtain ⟨hs, hg⟩ := nr_some h
  have HP := Lib.hid (parts_any ⟨s.toArray⟩)
  change Hid (∀ w, Calls Tryz.prog _ _ w (fun e w' => e = .returned (.func (.func 33) #[] #[.pointer (some ⟨w.heap.size, 0, none⟩)]) ∧ TxAt w' w.heap.size s 9 ∧ Below w.heap.size w w')) at HP
  subst hs
  have HG := Lib.hid hg
  have hl : D.length ≤ 32 := hg.1
  clear hg h he
  go_enter Tryz.func24, Tryz.ntmps24
  go_wp2_with fail
  refine HI.out.mono ?_
  rintro e w0 ⟨rfl, hb0⟩
  have H0 := Lib.hid hb0
  clear hb0
  go_wp2_with fail
  refine (HP.out w0).mono ?_
  rintro e w1 ⟨rfl, ht, hb⟩
  have hBs := H0.out.size
  obtain ⟨B, hB⟩ : ∃ B, w0.heap.size = B := ⟨_, rfl⟩
  rw [hB] at ht hb hBs ⊢
  have H := Lib.hid (And.intro ht (H0.out.trans (hb.mono hBs)))
  clear ht hb
  go_wp2
  go_loopw [7, 8] (fun hv av wr => ∃ k : Nat, k ≤ D.length ∧ hv = .string ⟨(nmL (D.take k)).toArray⟩ ∧ av = .string ⟨(nmL (D.drop k)).toArray⟩ ∧ TxAt wr B (nmL (D.drop k)) 9 ∧ Below w.heap.size w wr ∧ (ahL (D.drop k) b).map (D.take k ++ ·) = ahL D b) (fun _ av _ => strSz av)
  case atStart => exact ⟨0, by omega, rfl, rfl, H.out.1, H.out.2, by rw [List.drop_zero, List.take_zero]; cases ahL D b <;> simp⟩
  case round =>
    obtain ⟨k, hk, rfl, rfl, ht, hb, hinv⟩ := hrel
    by_cases heq : nmL (D.drop k) = b
    · rw [ah_stop heq] at hinv
      have HR := Lib.hid (And.intro hinv hb)
      subst heq
      clear hinv ht hb
      go_wp2
      go_ret2
      exact sbPost_mk (by rw [← HR.out.1]; simp [ahO]) HR.out.2
    · have hq : (nmL (D.drop k) == b) = false := by rw [beq_eq_false_iff_ne]; exact heq
      by_cases hlt : k < D.length
      · rw [ah_step hlt heq] at hinv
        have hd := drop_at D k hlt
        have hg2 := gd_drop HG.out k
        rw [hd] at ht hg2
        have HC := Lib.hid (nx_cons _ _ hg2 B wr ht)
        have hgt := gd_take HG.out k
        have HCh := Lib.hid (chain_any (nmL (D.take k)) (ptL D[k]) (by have := hgt.2.2; omega) (by have := (gd_cons hg2).1.2.2; rw [nm_one] at this; omega))
        rw [← nm_one, ← nm_app (fun r hr => nr_ne (hgt.2.1 r hr)) (fun r hr => nr_ne ((gd_cons hg2).1.2.1 r hr)), ← List.take_succ_eq_append_getElem hlt, nm_one] at HCh
        have HB := Lib.hid (And.intro hb hinv)
        have hms : (nmL (D.drop (k + 1))).length < (nmL (D.drop k)).length := by
          rw [hd, nm_cons]
          have := List.length_pos_iff.2 (pt_ne (nr_ne (hg2.2.1 D[k] List.mem_cons_self)))
          by_cases hD : D.drop (k + 1) = []
          · rw [hD]; simp [nmL, jnL]; omega
          · rw [nm_tail _ hD]; simp; omega
        have HM := Lib.hid hms
        clear hd hg2 ht hb hinv heq hgt hms
        go_wp2_with fail
        refine HC.out.mono ?_
        rintro e w2 ⟨rfl, ht2, hc2⟩
        have H2 := Lib.hid (And.intro ht2 (chg_below (Nat.le_refl _) HB.out.1 hBs hc2))
        clear ht2 hc2
        go_wp2_with fail
        refine (HCh.out _).mono ?_
        rintro e w3 ⟨rfl, hw⟩
        obtain rfl := hw.symm
        go_wp2
        exact ⟨⟨k + 1, by omega, rfl, rfl, H2.out.1, H2.out.2, HB.out.2⟩, HM.out⟩
      · obtain rfl : k = D.length := by omega
        rw [List.drop_length] at ht hq heq hinv
        rw [ah_none heq] at hinv
        rw [List.drop_length]
        have HC := Lib.hid (nx_nil B wr ht)
        have HB := Lib.hid (And.intro hb hinv)
        clear ht hb hinv heq
        go_wp2_with fail
        refine HC.out.mono ?_
        rintro e w2 ⟨rfl, ht2, hc2⟩
        have H2 := Lib.hid (chg_below (Nat.le_refl _) HB.out.1 hBs hc2)
        clear ht2 hc2
        go_wp2
        go_ret2
        exact sbPost_mk (a := []) (b := false) (by rw [← HB.out.2]; rfl) H2.out
set_option maxHeartbeats 800000 in
theorem ahead_none (s b : List UInt8) (h : nrD s = none) (w : World) (he : ErrOk w) : Calls Tryz.prog 24 #[.string ⟨s.toArray⟩, .string ⟨b.toArray⟩] w (SbPost ([], false) w) := by
  have HI := Lib.hid (isnorm_c s false (by rw [h]; rfl) w he)
  clear h he
  go_enter Tryz.func24, Tryz.ntmps24
  go_wp2_with fail
  refine HI.out.mono ?_
  rintro e w0 ⟨rfl, hb0⟩
  go_wp2
  go_ret2
  exact sbPost_mk rfl hb0
end Go.Proofs.YtdmjnfadhlgpkaaGreatDoor
