/- Where names stand: how long a part is, names joined, and the closure that tells the parts. Whether a text is normal, how many parts it has, what stands ahead, names joined. Parent, Leaf, Depth, Under, Join, Move, for all texts. -/
import Derived.Test.YtbihhdkmmlldnaaGreatDoorPlMN
import Derived.Test.YtbihhdkmmlldnaaGreatDoorDqE
import Derived.BigQuiet
namespace Go.Proofs.YtbihhdkmmlldnaaGreatDoor
set_option linter.unusedSimpArgs false
set_option linter.unusedVariables false
open Go Go.RowKit Go.Proofs.BerK Go.Proofs.MemK Go.Proofs.UtfK

/-! ### partSize -/
theorem psz_slash (s : ByteArray) (i : Nat) (h : i < s.size) (hc : s[i] = 92) : min (i + 1 + 1) s.size + (psL (s.data.toList.drop (i + 1 + 1))).length = min i s.size + (psL (s.data.toList.drop i)).length := by
  have hl := len_list s
  have hd := drop_at s.data.toList i (by omega)
  rw [at_list s i h, hc] at hd
  have e2 : (92 :: s.data.toList.drop (i + 1)).drop 2 = s.data.toList.drop (i + 1 + 1) := by rw [← hd, List.drop_drop]
  rw [hd, psL_slash, e2, List.length_append, ← hd, List.length_take, List.length_drop]
  omega
theorem psz_comma (s : ByteArray) (i : Nat) (h : i < s.size) (hc : s[i] = 44) : min i s.size + (psL (s.data.toList.drop i)).length = i := by
  have hl := len_list s
  have hd := drop_at s.data.toList i (by omega)
  rw [at_list s i h, hc] at hd
  rw [hd, psL_comma]
  simp; omega
theorem psz_else (s : ByteArray) (i : Nat) (h : i < s.size) (h1 : s[i] ≠ 92) (h2 : s[i] ≠ 44) : min (i + 1) s.size + (psL (s.data.toList.drop (i + 1))).length = min i s.size + (psL (s.data.toList.drop i)).length := by
  have hl := len_list s
  have hd := drop_at s.data.toList i (by omega)
  rw [at_list s i h] at hd
  rw [hd, psL_else _ _ h1 h2]
  simp; omega
theorem psz_end (s : ByteArray) (i : Nat) (h : s.size ≤ i) : min i s.size + (psL (s.data.toList.drop i)).length = s.size := by
  have hl := len_list s
  rw [List.drop_of_length_le (by omega)]
  simp [psL]; omega
theorem ps_len (l : List UInt8) : (psL l).length ≤ l.length := by
  have h : ∀ (n : Nat) (l : List UInt8), l.length = n → (psL l).length ≤ l.length := by
    intro n
    induction n using Nat.strongRecOn with
    | _ n ih =>
      intro l hl
      cases l with
      | nil => simp [psL]
      | cons c r =>
        by_cases h92 : c = 92
        · subst h92
          rw [psL_slash, List.length_append]
          have hd : ((92 :: r).drop 2).length = (92 :: r : List UInt8).length - 2 := by simp
          have := ih ((92 :: r).drop 2).length (by rw [hd]; simp at hl ⊢; omega) _ rfl
          have : ((92 :: r : List UInt8).take 2).length = min 2 (92 :: r : List UInt8).length := List.length_take
          omega
        · by_cases h44 : c = 44
          · subst h44; rw [psL_comma]; simp
          · rw [psL_else _ _ h92 h44]
            have := ih r.length (by simp at hl; omega) r rfl
            simp; omega
  exact h _ l rfl
set_option maxHeartbeats 1600000 in
set_option maxRecDepth 100000 in
theorem psize_any (s : ByteArray) (hs : s.size ≤ 140737488355328) (w : World) : Calls Tryz.prog 69 #[.string s] w (PureI ((psL s.data.toList).length : Nat) w) := by
  obtain ⟨R, hR⟩ : ∃ R, (psL s.data.toList).length = R := ⟨_, rfl⟩
  rw [hR]
  go_enter Tryz.func69, Tryz.ntmps69
  go_wp2
  go_loop [3] (fun v => ∃ i : Nat, i ≤ s.size + 1 ∧ v = .int .i64 (i : Nat) ∧ min i s.size + (psL (s.data.toList.drop i)).length = R) (fun v => s.size + 1 - (intOf v).toNat)
  case atStart => exact ⟨0, by omega, rfl, by rw [List.drop_zero, hR]; omega⟩
  case round =>
    obtain ⟨i, hi, rfl, hinv⟩ := hrel
    by_cases hlt : i < s.size
    · have hil : (i : Int) < (s.size : Int) := by omega
      have h8 : s[i].toNat < 256 := s[i].toNat_lt
      have HC := Lib.hid (And.intro (psz_slash s i hlt) (And.intro (psz_comma s i hlt) (psz_else s i hlt)))
      have H := Lib.hid hinv
      clear hinv
      obtain ⟨c, hc⟩ : ∃ c, s[i] = c := ⟨_, rfl⟩
      rw [hc] at h8 HC
      by_cases h92 : c = 92
      · have q : ((c.toNat : Int) == 92) = true := by rw [h92]; rfl
        have HI := Lib.hid (HC.out.1 h92)
        clear h92
        go_wp2
        exact ⟨⟨i + 1 + 1, by omega, by go_num, by rw [HI.out]; exact H.out⟩, by simp [intOf]; omega⟩
      have q1 : ((c.toNat : Int) == 92) = false := by rw [beq_eq_false_iff_ne]; intro hh; apply h92; apply UInt8.toNat_inj.1; show _ = 92; omega
      by_cases h44 : c = 44
      · have q2 : ((c.toNat : Int) == 44) = true := by rw [h44]; rfl
        have HI := Lib.hid (HC.out.2.1 h44)
        clear h92 h44
        go_wp2
        go_ret
        refine ⟨?_, rfl⟩
        rw [← H.out, HI.out]; rfl
      · have q2 : ((c.toNat : Int) == 44) = false := by rw [beq_eq_false_iff_ne]; intro hh; apply h44; apply UInt8.toNat_inj.1; show _ = 44; omega
        have HI := Lib.hid (HC.out.2.2 h92 h44)
        clear h92 h44
        go_wp2
        exact ⟨⟨i + 1, by omega, by go_num, by rw [HI.out]; exact H.out⟩, by simp [intOf]; omega⟩
    · have hil : ¬ ((i : Int) < (s.size : Int)) := by omega
      have HI := Lib.hid (psz_end s i (by omega))
      have H := Lib.hid hinv
      clear hinv
      go_wp2
      go_ret
      refine ⟨?_, rfl⟩
      rw [← H.out, HI.out]; rfl

/-! ### chain -/
theorem list_e {l : List UInt8} (h : l = []) : l.isEmpty = true := by subst h; rfl
theorem list_ne {l : List UInt8} (h : l ≠ []) : l.isEmpty = false := by cases l <;> simp_all
theorem ch_e1 {a b : List UInt8} (h : a = []) : chL a b = b := by unfold chL; rw [if_pos h]
theorem ch_e2 {a b : List UInt8} (h : a ≠ []) (h2 : b = []) : chL a b = a := by unfold chL; rw [if_neg h, if_pos h2]
theorem ch_e3 {a b : List UInt8} (h : a ≠ []) (h2 : b ≠ []) : chL a b = a ++ [44] ++ b := by unfold chL; rw [if_neg h, if_neg h2]; simp
set_option maxHeartbeats 1600000 in
set_option maxRecDepth 100000 in
theorem chain_any (a b : List UInt8) (ha : a.length ≤ 35184372088832) (hb : b.length ≤ 35184372088832) (w : World) : Calls Tryz.prog 53 #[.string ⟨a.toArray⟩, .string ⟨b.toArray⟩] w (PureS (chL a b) w) := by
  by_cases h1 : a = []
  · have H := Lib.hid (ch_e1 (b := b) h1)
    have q := list_e h1
    clear h1
    go_enter Tryz.func53, Tryz.ntmps53
    go_wp2
    go_ret
    exact ⟨by rw [H.out]; rfl, rfl⟩
  · by_cases h2 : b = []
    · have H := Lib.hid (ch_e2 h1 h2)
      have q := list_ne h1
      have q2 := list_e h2
      clear h1 h2
      go_enter Tryz.func53, Tryz.ntmps53
      go_wp2
      go_ret
      exact ⟨by rw [H.out]; rfl, rfl⟩
    · have H := Lib.hid (ch_e3 h1 h2)
      have q := list_ne h1
      have q2 := list_ne h2
      have l1 : ¬ (9223372036854775807 < a.length + 1) := by omega
      have l2 : ¬ (9223372036854775807 < a.length + 1 + b.length) := by omega
      clear h1 h2
      go_enter Tryz.func53, Tryz.ntmps53
      go_wp2
      go_ret
      refine ⟨?_, rfl⟩
      rw [H.out, ← cat_l, ← cat_l]; rfl

/-! ### The parts, one call a part -/
/-- A cell that holds a text. -/
def TxAt (w : World) (b : Nat) (x : List UInt8) (t : TypeId) : Prop := w.heap[b]? = some (.cells #[.string ⟨x.toArray⟩] t (0, 0))
theorem tx_cell {w : World} {b : Nat} {x : List UInt8} {t : TypeId} (h : TxAt w b x t) : w.cell? ⟨b, 0, none⟩ = some (.string ⟨x.toArray⟩) := obj_cell h 0 _ rfl
theorem tx_free {w : World} {b : Nat} {x : List UInt8} {t : TypeId} (h : TxAt w b x t) : w.frozen? ⟨b, 0, none⟩ = false := obj_free h 0
theorem tx_lt {w : World} {b : Nat} {x : List UInt8} {t : TypeId} (h : TxAt w b x t) : b < w.heap.size := obj_lt h
theorem tx_set {w : World} {b : Nat} {x y : List UInt8} {t : TypeId} (h : TxAt w b x t) : TxAt (w.setCell ⟨b, 0, none⟩ (.string ⟨y.toArray⟩)) b y t := obj_set h 0 _
theorem tx_below {w w' : World} {b : Nat} {x : List UInt8} {t : TypeId} (h : TxAt w b x t) (hb : Below w.heap.size w w') : TxAt w' b x t := obj_below h hb (obj_lt h)
theorem tx_dn {w : World} {b : Nat} {x : List UInt8} {t : TypeId} (h : TxAt w b x t) (n : Nat) : TxAt (w.drewN n) b x t := h
def NxPost (p q : List UInt8) (ok : Bool) (b : Nat) (t : TypeId) (w : World) (en : Ending) (w' : World) : Prop :=
  en = .returned (.tuple #[.string ⟨p.toArray⟩, .string ⟨q.toArray⟩, .bool ok]) ∧ TxAt w' b q t ∧ Chg (fun k => k = b) w w'
set_option maxHeartbeats 1600000 in
set_option maxRecDepth 100000 in
theorem nx_nil (b : Nat) (w : World) (h : TxAt w b [] 9) : Calls Tryz.prog 68 #[.pointer (some ⟨b, 0, none⟩)] w (NxPost [] [] false b 9 w) := by
  have c := tx_cell h
  have H := Lib.hid h
  clear h
  go_enter Tryz.func68, Tryz.ntmps68
  go_wp2
  go_ret3
  exact ⟨rfl, H.out, Chg.refl _ _⟩
/-- What stands behind the own part of a text, and the comma. -/
def rsL (x : List UInt8) : List UInt8 := (x.drop (psL x).length).drop 1
theorem ex_take (x : List UInt8) (n : Nat) : (⟨x.toArray⟩ : ByteArray).extract 0 n = ⟨(x.take n).toArray⟩ := by
  rw [← mk_list (ByteArray.extract _ _ _), Lib.extract_data, List.drop_zero, Nat.sub_zero]
theorem ex_drop (x : List UInt8) (n : Nat) : (⟨x.toArray⟩ : ByteArray).extract n x.length = ⟨(x.drop n).toArray⟩ := by
  rw [← mk_list (ByteArray.extract _ _ _), show x.length = (⟨x.toArray⟩ : ByteArray).size from rfl, Lib.extract_to_end]
theorem ps_take (x : List UInt8) : x.take (psL x).length = psL x := by
  have h : ∀ (n : Nat) (x : List UInt8), x.length = n → x.take (psL x).length = psL x := by
    intro n
    induction n using Nat.strongRecOn with
    | _ n ih =>
      intro l hl
      cases l with
      | nil => simp [psL]
      | cons c r =>
        by_cases h92 : c = 92
        · subst h92
          cases r with
          | nil => simp [psL]
          | cons d r =>
            have := ih r.length (by simp at hl; omega) r rfl
            simp [psL, this]
        · by_cases h44 : c = 44
          · subst h44; rw [psL_comma]; simp
          · have := ih r.length (by simp at hl; omega) r rfl
            rw [psL_else _ _ h92 h44]
            simp [this]
  exact h _ x rfl
set_option maxHeartbeats 3200000 in
set_option maxRecDepth 100000 in
theorem nx_any (x : List UInt8) (hx : x ≠ []) (hl : x.length ≤ 35184372088832) (b : Nat) (w : World) (h : TxAt w b x 9) : Calls Tryz.prog 68 #[.pointer (some ⟨b, 0, none⟩)] w (NxPost (psL x) (rsL x) true b 9 w) := by
  have HP := Lib.hid (psize_any ⟨x.toArray⟩ (show x.length ≤ _ by omega))
  change Hid (∀ w, Calls Tryz.prog _ _ w (PureI ((psL x).length : Nat) w)) at HP
  have hpl := ps_len x
  have e1 := ex_take x (psL x).length
  rw [ps_take] at e1
  have e2 := ex_drop x (psL x).length
  have hrl : (x.drop (psL x).length).length = x.length - (psL x).length := List.length_drop
  have hrs : rsL x = (x.drop (psL x).length).drop 1 := rfl
  rw [hrs]
  obtain ⟨P, hP⟩ : ∃ P, psL x = P := ⟨_, rfl⟩
  rw [hP] at HP hpl e1 e2 hrl ⊢
  obtain ⟨K, hK⟩ : ∃ K, P.length = K := ⟨_, rfl⟩
  rw [hK] at HP hpl e1 e2 hrl ⊢
  obtain ⟨R, hR⟩ : ∃ R, x.drop K = R := ⟨_, rfl⟩
  rw [hR] at e2 hrl ⊢
  have q := list_ne hx
  have H := Lib.hid h
  have l0 := tx_lt h
  have c0 := tx_cell h
  have f0 := tx_free h
  have q1 : (K : Int) ≤ (x.length : Int) := by omega
  have q2 : (0 : Int) ≤ (K : Int) := by omega
  have HK := Lib.hid hK
  clear hrs hR h hP hx hK hrl
  by_cases hr : R = []
  · have hr2 := list_e hr
    have HR := Lib.hid (show R.drop 1 = R by rw [hr]; rfl)
    clear hr
    go_enter Tryz.func68, Tryz.ntmps68
    go_wp2
    go_quiet (first | (go_at_call 69; exact Calls.quiet_of_same (HP.out _)))
    have hK2 := HK.out
    have H2 := Lib.hid (And.intro (tx_set (y := R) (tx_dn H.out nq)) ((Chg.refl (fun k => k = b) w).drewN nq |>.setCell (p := ⟨b, 0, none⟩) (fun _ => rfl) (.string ⟨R.toArray⟩)))
    go_wp2
    obtain ⟨W, hW⟩ : ∃ W, (w.drewN nq).setCell ⟨b, 0, none⟩ (.string ⟨R.toArray⟩) = W := ⟨_, rfl⟩
    rw [hW] at H2 ⊢
    have c1 := tx_cell H2.out.1
    go_quiet (fail)
    go_wp2
    go_ret3
    refine ⟨by rw [HR.out]; rfl, ?_, ?_⟩
    · rw [HR.out]; exact tx_dn H2.out.1 nq
    · exact H2.out.2.drewN nq
  · have hr2 := list_ne hr
    have e3 := ex_drop R 1
    have q3 : (1 : Int) ≤ (R.length : Int) := by have := List.length_pos_iff.2 hr; omega
    have q4 : 1 ≤ R.length := List.length_pos_iff.2 hr
    clear hr
    obtain ⟨Z, hZ⟩ : ∃ Z, R.drop 1 = Z := ⟨_, rfl⟩
    rw [hZ] at e3 ⊢
    clear hZ
    go_enter Tryz.func68, Tryz.ntmps68
    go_wp2
    go_quiet (first | (go_at_call 69; exact Calls.quiet_of_same (HP.out _)))
    have hK2 := HK.out
    have H2 := Lib.hid (And.intro (tx_set (y := Z) (tx_set (y := R) (tx_dn H.out nq))) (((Chg.refl (fun k => k = b) w).drewN nq |>.setCell (p := ⟨b, 0, none⟩) (fun _ => rfl) (.string ⟨R.toArray⟩)).setCell (p := ⟨b, 0, none⟩) (fun _ => rfl) (.string ⟨Z.toArray⟩)))
    go_wp2
    obtain ⟨W, hW⟩ : ∃ W, ((w.drewN nq).setCell ⟨b, 0, none⟩ (.string ⟨R.toArray⟩)).setCell ⟨b, 0, none⟩ (.string ⟨Z.toArray⟩) = W := ⟨_, rfl⟩
    rw [hW] at H2 ⊢
    have c1 := tx_cell H2.out.1
    go_quiet (fail)
    go_wp2
    go_ret3
    exact ⟨rfl, tx_dn H2.out.1 nq, H2.out.2.drewN nq⟩
theorem nx_cons (r : List Av) (D : List (List Av)) (hg : GD (r :: D)) (b : Nat) (w : World) (h : TxAt w b (nmL (r :: D)) 9) : Calls Tryz.prog 68 #[.pointer (some ⟨b, 0, none⟩)] w (NxPost (ptL r) (nmL D) true b 9 w) := by
  have hn := nr_ne (hg.2.1 r (by simp))
  have hne : nmL (r :: D) ≠ [] := nm_ne (fun q hq => nr_ne (hg.2.1 q hq)) (by simp)
  have e1 : psL (nmL (r :: D)) = ptL r := ps_nm r D fun p hp => ((pr_ty (hg.2.1 r (by simp)).1).2 p hp).1
  have e2 : rsL (nmL (r :: D)) = nmL D := by
    unfold rsL
    rw [e1, nm_cons, List.drop_left]
    by_cases hD : D = []
    · subst hD; rfl
    · rw [nm_tail D hD]; rfl
  have := nx_any (nmL (r :: D)) hne (by have := hg.2.2; omega) b w h
  rw [e1, e2] at this
  exact this
set_option maxHeartbeats 800000 in
set_option maxRecDepth 100000 in
/-- The closure is made. -/
theorem parts_any (s : ByteArray) (w : World) : Calls Tryz.prog 52 #[.string s] w
    (fun e w' => e = .returned (.func (.func 68) #[] #[.pointer (some ⟨w.heap.size, 0, none⟩)]) ∧ TxAt w' w.heap.size s.data.toList 9 ∧ Below w.heap.size w w') := by
  have hs := mk_list s
  have hB : Below w.heap.size w (w.alloc (.cells #[.string s] 9)) := (Below.refl _ w).alloc (Nat.le_refl _) _
  have hT : TxAt (w.alloc (.cells #[.string s] 9)) w.heap.size s.data.toList 9 := by unfold TxAt; rw [hs]; exact heap_alloc_new w _
  have H := Lib.hid (And.intro hT hB)
  clear hT hB hs
  go_enter Tryz.func52, Tryz.ntmps52
  go_wp2
  go_ret
  exact ⟨rfl, H.out.1, H.out.2⟩
end Go.Proofs.YtbihhdkmmlldnaaGreatDoor
namespace Go.Proofs.YtbihhdkmmlldnaaGreatDoor
set_option linter.unusedSimpArgs false
set_option linter.unusedVariables false
open Go Go.RowKit Go.Proofs.BerK Go.Proofs.MemK Go.Proofs.UtfK

/-! ### isNormal -/
theorem nr_is (s : List UInt8) (X : List UInt8) (n : Nat) (h : noD s = (X, n)) : (nrD s).isSome = (decide (n = 0) && (X == s)) := by
  unfold nrD
  rw [h]
  by_cases h1 : n = 0
  · by_cases h2 : X = s
    · subst h1 h2; simp
    · have : ((X, n) : List UInt8 × Nat) ≠ (s, 0) := fun e => h2 (Prod.mk.inj e).1
      rw [if_neg this]; simp [h2]
  · have : ((X, n) : List UInt8 × Nat) ≠ (s, 0) := fun e => h1 (Prod.mk.inj e).2
    rw [if_neg this]; simp [h1]
set_option maxHeartbeats 1600000 in
set_option maxRecDepth 100000 in
theorem isnorm_any (s : ByteArray) (w : World) (he : ErrOk w) : Calls Tryz.prog 51 #[.string s] w (BoolPost (nrD s.data.toList).isSome w) := by
  have HN := Lib.hid (dnorm_any s w he)
  have HI := Lib.hid (nr_is s.data.toList)
  obtain ⟨p, hp⟩ : ∃ p, noD s.data.toList = p := ⟨_, rfl⟩
  rw [hp] at HN HI
  obtain ⟨X, n⟩ := p
  clear he hp
  have H := Lib.hid (HI.out X n rfl)
  clear HI
  by_cases hn : n = 0
  · subst hn
    go_enter Tryz.func51, Tryz.ntmps51
    go_wp2_with fail
    refine HN.out.mono ?_
    rintro e w2 ⟨rfl, hb⟩
    go_wp2
    go_ret
    refine boolPost_mk ?_ hb
    rw [H.out]
    simp [ByteArray.toList_eq]
  · have hq : ((n : Int) == 0) = false := by rw [beq_eq_false_iff_ne]; omega
    have HF := Lib.hid (show (nrD s.data.toList).isSome = false by rw [H.out]; simp [hn])
    clear hn H
    go_enter Tryz.func51, Tryz.ntmps51
    go_wp2_with fail
    refine HN.out.mono ?_
    rintro e w2 ⟨rfl, hb⟩
    go_wp2
    go_ret
    exact boolPost_mk HF.out hb
theorem isnorm_c (s : List UInt8) (b : Bool) (h : (nrD s).isSome = b) (w : World) (he : ErrOk w) : Calls Tryz.prog 51 #[.string ⟨s.toArray⟩] w (BoolPost b w) := by
  have := isnorm_any ⟨s.toArray⟩ w he
  rw [← h]; exact this

/-! ### count -/
theorem gd_drop {D : List (List Av)} (h : GD D) (k : Nat) : GD (D.drop k) := (gd_sub (P := D.take k) (by rw [List.take_append_drop]; exact h)).2
theorem gd_take {D : List (List Av)} (h : GD D) (k : Nat) : GD (D.take k) := (gd_sub (P := D.take k) (E := D.drop k) (by rw [List.take_append_drop]; exact h)).1
theorem chg_below {b B : Nat} {w0 w w' : World} (hw : B ≤ w0.heap.size) (hb : Below B w0 w) (hB : B ≤ b) (h : Chg (fun k => k = b) w w') : Below B w0 w' :=
  hb.trans (h.toBelow (Nat.le_trans hw hb.size) (fun k _ e => e ▸ hB))
set_option maxHeartbeats 1600000 in
set_option maxRecDepth 100000 in
theorem count_any (D : List (List Av)) (hg : GD D) (w : World) : Calls Tryz.prog 74 #[.string ⟨(nmL D).toArray⟩] w (NumPost D.length w) := by
  have HP := Lib.hid (parts_any ⟨(nmL D).toArray⟩ w)
  have HG := Lib.hid hg
  have hl : D.length ≤ 32 := hg.1
  clear hg
  go_enter Tryz.func74, Tryz.ntmps74
  go_wp2_with fail
  refine HP.out.mono ?_
  rintro e w1 ⟨rfl, ht, hb⟩
  change TxAt w1 w.heap.size (nmL D) 9 at ht
  obtain ⟨B, hB⟩ : ∃ B, w.heap.size = B := ⟨_, rfl⟩
  rw [hB] at ht hb ⊢
  have H := Lib.hid (And.intro ht hb)
  clear ht hb
  go_wp2
  go_loopw [3] (fun v wr => ∃ k : Nat, k ≤ D.length ∧ v = .int .i64 (k : Nat) ∧ TxAt wr B (nmL (D.drop k)) 9 ∧ Below B w wr) (fun v _ => D.length - (intOf v).toNat)
  case atStart => exact ⟨0, by omega, rfl, H.out.1, H.out.2⟩
  case round =>
    obtain ⟨k, hk, rfl, ht, hb⟩ := hrel
    by_cases hlt : k < D.length
    · have hd := drop_at D k hlt
      have hg2 := gd_drop HG.out k
      rw [hd] at ht hg2
      have HC := Lib.hid (nx_cons _ _ hg2 B wr ht)
      have HB := Lib.hid hb
      clear hd hg2 ht hb
      go_wp2_with fail
      refine HC.out.mono ?_
      rintro e w2 ⟨rfl, ht2, hc2⟩
      have H2 := Lib.hid (And.intro ht2 (chg_below (by omega) HB.out (Nat.le_refl _) hc2))
      clear ht2 hc2
      go_wp2
      exact ⟨⟨k + 1, by omega, by go_num, H2.out.1, H2.out.2⟩, by simp [intOf]; omega⟩
    · obtain rfl : k = D.length := by omega
      rw [List.drop_length] at ht
      have HC := Lib.hid (nx_nil B wr ht)
      have HB := Lib.hid hb
      clear ht hb
      go_wp2_with fail
      refine HC.out.mono ?_
      rintro e w2 ⟨rfl, ht2, hc2⟩
      have H2 := Lib.hid (chg_below (by omega) HB.out (Nat.le_refl _) hc2)
      clear ht2 hc2
      go_wp2
      go_ret
      exact numPost_mk rfl (by rw [hB]; exact H2.out)

/-! ### join -/
def obL : Option (List UInt8) → List UInt8 × Bool | none => ([], false) | some y => (y, true)
/-- What hands back a text, and whether there is one. -/
def SbPost (p : List UInt8 × Bool) (w : World) (en : Ending) (w' : World) : Prop := en = .returned (.tuple #[.string ⟨p.1.toArray⟩, .bool p.2]) ∧ Below w.heap.size w w'
theorem sbPost_mk {p : List UInt8 × Bool} {a : List UInt8} {b : Bool} {w w' : World} (h : p = (a, b)) (hb : Below w.heap.size w w') : SbPost p w (.returned (.tuple #[.string ⟨a.toArray⟩, .bool b])) w' := by subst h; exact ⟨rfl, hb⟩
theorem jo_no {P E : List (List Av)} (h : 32 < P.length + E.length ∨ 4096 < (nmL (P ++ E)).length) : joL P E = none := by unfold joL; rw [if_pos h]
theorem jo_yes {P E : List (List Av)} (h : ¬ (32 < P.length + E.length ∨ 4096 < (nmL (P ++ E)).length)) : joL P E = some (nmL (P ++ E)) := by unfold joL; rw [if_neg h]
/-! ### ahead -/
theorem ah_nil (b : List UInt8) : ahL [] b = if b = [] then some [] else none := rfl
theorem ah_cons (r : List Av) (D : List (List Av)) (b : List UInt8) : ahL (r :: D) b = if nmL (r :: D) = b then some [] else (ahL D b).map (r :: ·) := rfl
theorem ah_stop {D : List (List Av)} {b : List UInt8} (h : nmL D = b) : ahL D b = some [] := by
  cases D with
  | nil => rw [ah_nil, if_pos (show b = [] from h.symm)]
  | cons r D => rw [ah_cons, if_pos h]
theorem ah_none {b : List UInt8} (h : nmL [] ≠ b) : ahL [] b = none := by rw [ah_nil, if_neg (fun e => h (by rw [e]; rfl))]
theorem ah_step {D : List (List Av)} {b : List UInt8} {k : Nat} (hk : k < D.length) (h : nmL (D.drop k) ≠ b) : (ahL (D.drop k) b).map (D.take k ++ ·) = (ahL (D.drop (k + 1)) b).map (D.take (k + 1) ++ ·) := by
  rw [drop_at D k hk] at h ⊢
  rw [ah_cons, if_neg h, Option.map_map, List.take_succ_eq_append_getElem hk]
  congr 1
  funext P
  show D.take k ++ (D[k] :: P) = (D.take k ++ [D[k]]) ++ P
  rw [List.append_assoc]; rfl
def ahO (o : Option (List (List Av))) : List UInt8 × Bool := match o with | none => ([], false) | some P => (nmL P, true)
set_option maxHeartbeats 3200000 in
set_option maxRecDepth 100000 in
theorem ahead_some (s b : List UInt8) (D : List (List Av)) (h : nrD s = some D) (w : World) (he : ErrOk w) : Calls Tryz.prog 36 #[.string ⟨s.toArray⟩, .string ⟨b.toArray⟩] w (SbPost (ahO (ahL D b)) w) := by
  have HI := Lib.hid (isnorm_c s true (by rw [h]; rfl) w he)
  obtain ⟨hs, hg⟩ := nr_some h
  have HP := Lib.hid (parts_any ⟨s.toArray⟩)
  change Hid (∀ w, Calls Tryz.prog _ _ w (fun e w' => e = .returned (.func (.func 68) #[] #[.pointer (some ⟨w.heap.size, 0, none⟩)]) ∧ TxAt w' w.heap.size s 9 ∧ Below w.heap.size w w')) at HP
  subst hs
  have HG := Lib.hid hg
  have hl : D.length ≤ 32 := hg.1
  clear hg h he
  go_enter Tryz.func36, Tryz.ntmps36
  go_wp2_with fail
  refine HI.out.mono ?_
  rintro e w0 ⟨rfl, hb0⟩
  have H0 := Lib.hid hb0
  clear hb0
  go_wp2_with fail
  refine (HP.out w0).mono ?_
  rintro e w1 ⟨rfl, ht, hb⟩
  have hBs := H0.out.size
  obtain ⟨B, hB⟩ : ∃ B, w0.heap.size = B := ⟨_, rfl⟩
  rw [hB] at ht hb hBs ⊢
  have H := Lib.hid (And.intro ht (H0.out.trans (hb.mono hBs)))
  clear ht hb
  go_wp2
  go_loopw [7, 8] (fun hv av wr => ∃ k : Nat, k ≤ D.length ∧ hv = .string ⟨(nmL (D.take k)).toArray⟩ ∧ av = .string ⟨(nmL (D.drop k)).toArray⟩ ∧ TxAt wr B (nmL (D.drop k)) 9 ∧ Below w.heap.size w wr ∧ (ahL (D.drop k) b).map (D.take k ++ ·) = ahL D b) (fun _ av _ => strSz av)
  case atStart => exact ⟨0, by omega, rfl, rfl, H.out.1, H.out.2, by rw [List.drop_zero, List.take_zero]; cases ahL D b <;> simp⟩
  case round =>
    obtain ⟨k, hk, rfl, rfl, ht, hb, hinv⟩ := hrel
    by_cases heq : nmL (D.drop k) = b
    · rw [ah_stop heq] at hinv
      have HR := Lib.hid (And.intro hinv hb)
      subst heq
      clear hinv ht hb
      go_wp2
      go_ret2
      exact sbPost_mk (by rw [← HR.out.1]; simp [ahO]) HR.out.2
    · have hq : (nmL (D.drop k) == b) = false := by rw [beq_eq_false_iff_ne]; exact heq
      by_cases hlt : k < D.length
      · rw [ah_step hlt heq] at hinv
        have hd := drop_at D k hlt
        have hg2 := gd_drop HG.out k
        rw [hd] at ht hg2
        have HC := Lib.hid (nx_cons _ _ hg2 B wr ht)
        have hgt := gd_take HG.out k
        have HCh := Lib.hid (chain_any (nmL (D.take k)) (ptL D[k]) (by have := hgt.2.2; omega) (by have := (gd_cons hg2).1.2.2; rw [nm_one] at this; omega))
        rw [← nm_one, ← nm_app (fun r hr => nr_ne (hgt.2.1 r hr)) (fun r hr => nr_ne ((gd_cons hg2).1.2.1 r hr)), ← List.take_succ_eq_append_getElem hlt, nm_one] at HCh
        have HB := Lib.hid (And.intro hb hinv)
        have hms : (nmL (D.drop (k + 1))).length < (nmL (D.drop k)).length := by
          rw [hd, nm_cons]
          have := List.length_pos_iff.2 (pt_ne (nr_ne (hg2.2.1 D[k] List.mem_cons_self)))
          by_cases hD : D.drop (k + 1) = []
          · rw [hD]; simp [nmL, jnL]; omega
          · rw [nm_tail _ hD]; simp; omega
        have HM := Lib.hid hms
        clear hd hg2 ht hb hinv heq hgt hms
        go_wp2_with fail
        refine HC.out.mono ?_
        rintro e w2 ⟨rfl, ht2, hc2⟩
        have H2 := Lib.hid (And.intro ht2 (chg_below (Nat.le_refl _) HB.out.1 hBs hc2))
        clear ht2 hc2
        go_wp2_with fail
        refine (HCh.out _).mono ?_
        rintro e w3 ⟨rfl, hw⟩
        obtain rfl := hw.symm
        go_wp2
        exact ⟨⟨k + 1, by omega, rfl, rfl, H2.out.1, H2.out.2, HB.out.2⟩, HM.out⟩
      · obtain rfl : k = D.length := by omega
        rw [List.drop_length] at ht hq heq hinv
        rw [ah_none heq] at hinv
        rw [List.drop_length]
        have HC := Lib.hid (nx_nil B wr ht)
        have HB := Lib.hid (And.intro hb hinv)
        clear ht hb hinv heq
        go_wp2_with fail
        refine HC.out.mono ?_
        rintro e w2 ⟨rfl, ht2, hc2⟩
        have H2 := Lib.hid (chg_below (Nat.le_refl _) HB.out.1 hBs hc2)
        clear ht2 hc2
        go_wp2
        go_ret2
        exact sbPost_mk (a := []) (b := false) (by rw [← HB.out.2]; rfl) H2.out
set_option maxHeartbeats 800000 in
theorem ahead_none (s b : List UInt8) (h : nrD s = none) (w : World) (he : ErrOk w) : Calls Tryz.prog 36 #[.string ⟨s.toArray⟩, .string ⟨b.toArray⟩] w (SbPost ([], false) w) := by
  have HI := Lib.hid (isnorm_c s false (by rw [h]; rfl) w he)
  clear h he
  go_enter Tryz.func36, Tryz.ntmps36
  go_wp2_with fail
  refine HI.out.mono ?_
  rintro e w0 ⟨rfl, hb0⟩
  go_wp2
  go_ret2
  exact sbPost_mk rfl hb0
end Go.Proofs.YtbihhdkmmlldnaaGreatDoor
namespace Go.Proofs.YtbihhdkmmlldnaaGreatDoor
set_option linter.unusedSimpArgs false
set_option linter.unusedVariables false
open Go Go.RowKit Go.Proofs.BerK Go.Proofs.MemK Go.Proofs.UtfK

/-! ### The own part, and what is above -/
def owL (s : List UInt8) : List UInt8 × List UInt8 × Bool := match nrD s with | some (r :: D) => (ptL r, nmL D, true) | _ => ([], [], false)
def OwPost (p : List UInt8 × List UInt8 × Bool) (w : World) (en : Ending) (w' : World) : Prop := en = .returned (.tuple #[.string ⟨p.1.toArray⟩, .string ⟨p.2.1.toArray⟩, .bool p.2.2]) ∧ Below w.heap.size w w'
theorem owPost_mk {p : List UInt8 × List UInt8 × Bool} {a b : List UInt8} {c : Bool} {w w' : World} (h : p = (a, b, c)) (hb : Below w.heap.size w w') : OwPost p w (.returned (.tuple #[.string ⟨a.toArray⟩, .string ⟨b.toArray⟩, .bool c])) w' := by subst h; exact ⟨rfl, hb⟩
theorem ow_none {s : List UInt8} (h : nrD s = none ∨ nrD s = some []) : owL s = ([], [], false) := by unfold owL; rcases h with h | h <;> rw [h]
theorem ow_cons {s : List UInt8} {r : List Av} {D : List (List Av)} (h : nrD s = some (r :: D)) : owL s = (ptL r, nmL D, true) := by unfold owL; rw [h]
theorem par_ow (s : List UInt8) : parL s = ((owL s).2.1, (owL s).2.2) := by
  rcases nr_ways s with h | ⟨r, D, h⟩
  · rw [par_none h, ow_none h]
  · rw [par_cons h, ow_cons h]
theorem leaf_ow (s : List UInt8) : leafL s = ((owL s).1, (owL s).2.2) := by
  rcases nr_ways s with h | ⟨r, D, h⟩
  · rw [leaf_none h, ow_none h]
  · rw [leaf_cons h, ow_cons h]
/-! ### Depth, Under -/
def DepPost (n : Int) (w : World) (en : Ending) (w' : World) : Prop := en = .returned (.int .i64 n) ∧ Below w.heap.size w w'
theorem depPost_mk {n m : Int} {w w' : World} (h : n = m) (hb : Below w.heap.size w w') : DepPost n w (.returned (.int .i64 m)) w' := by subst h; exact ⟨rfl, hb⟩
set_option maxHeartbeats 800000 in
theorem depth_any (s : List UInt8) (w : World) (he : ErrOk w) : Calls Tryz.prog 59 #[.string ⟨s.toArray⟩] w (DepPost (depL s) w) := by
  by_cases h : nrD s = none
  · have HI := Lib.hid (isnorm_c s false (by rw [h]; rfl) w he)
    have HO := Lib.hid (dep_none h)
    clear h he
    go_enter Tryz.func59, Tryz.ntmps59
    go_wp2_with fail
    refine HI.out.mono ?_
    rintro e w0 ⟨rfl, hb0⟩
    go_wp2
    go_ret
    exact depPost_mk HO.out hb0
  · obtain ⟨D, h⟩ := Option.ne_none_iff_exists'.1 h
    have HI := Lib.hid (isnorm_c s true (by rw [h]; rfl) w he)
    obtain ⟨hs, hg⟩ := nr_some h
    have HO := Lib.hid (dep_some h)
    have HC := Lib.hid (count_any D hg)
    rw [← hs] at HC
    clear h hs hg he
    go_enter Tryz.func59, Tryz.ntmps59
    go_wp2_with fail
    refine HI.out.mono ?_
    rintro e w0 ⟨rfl, hb0⟩
    have H0 := Lib.hid hb0
    clear hb0
    go_wp2_with fail
    refine (HC.out w0).mono ?_
    rintro e w1 ⟨rfl, hb1⟩
    have H1 := Lib.hid (H0.out.trans (hb1.mono H0.out.size))
    clear hb1
    go_wp2
    go_ret
    exact depPost_mk HO.out H1.out
theorem und_ah {s b : List UInt8} {D : List (List Av)} (h : nrD s = some D) : undL s b = (ahO (ahL D b)).2 := by
  unfold undL
  rw [h]
  simp only
  cases ahL D b <;> rfl
theorem und_none {s b : List UInt8} (h : nrD s = none) : undL s b = false := by unfold undL; rw [h]
theorem ah_of (s b : List UInt8) (w : World) (he : ErrOk w) : ∃ p c, undL s b = c ∧ Calls Tryz.prog 36 #[.string ⟨s.toArray⟩, .string ⟨b.toArray⟩] w (SbPost (p, c) w) := by
  by_cases h : nrD s = none
  · exact ⟨[], false, und_none h, ahead_none s b h w he⟩
  · obtain ⟨D, h⟩ := Option.ne_none_iff_exists'.1 h
    exact ⟨(ahO (ahL D b)).1, (ahO (ahL D b)).2, und_ah h, ahead_some s b D h w he⟩
set_option maxHeartbeats 800000 in
theorem under_any (s b : List UInt8) (w : World) (he : ErrOk w) : Calls Tryz.prog 17 #[.string ⟨s.toArray⟩, .string ⟨b.toArray⟩] w (BoolPost (undL s b) w) := by
  obtain ⟨p, c, h1, h2⟩ := ah_of s b w he
  have HA := Lib.hid h2
  rw [h1]
  clear h1 h2 he
  go_enter Tryz.func17, Tryz.ntmps17
  go_wp2_with fail
  refine HA.out.mono ?_
  rintro e w0 ⟨rfl, hb0⟩
  go_wp2
  go_ret
  exact boolPost_mk rfl hb0

/-! ### Join, Move -/
theorem join_no {r a : List UInt8} (h : depL r ≠ 1 ∨ nrD a = none) : joinL r a = ([], 13) := by
  unfold joinL
  rcases h with h | h
  · split
    · rename_i x hx; rw [dep_some hx] at h; exact absurd rfl h
    · rfl
  · split
    · rw [h]
    · rfl
theorem dep_one {r : List UInt8} (h : depL r = 1) : ∃ x, nrD r = some [x] := by
  unfold depL at h
  split at h
  · cases h
  · rename_i D hD
    match D, h, hD with
    | [x], _, hD => exact ⟨x, hD⟩
    | [], h, _ => simp at h
    | x :: y :: D, h, _ => simp at h; omega
def jnO : Option (List UInt8) → List UInt8 × Nat | none => ([], 3) | some y => (y, 0)
theorem join_yes {r a : List UInt8} {x : List Av} {E : List (List Av)} (h1 : nrD r = some [x]) (h2 : nrD a = some E) : joinL r a = jnO (joL [x] E) := by
  unfold joinL
  rw [h1, h2]
  simp only
  cases joL [x] E <;> rfl
theorem mov_none {s f t : List UInt8} (h : undL s f = false ∨ nrD t = none) : movL s f t = none := by
  unfold movL
  cases h1 : nrD s with
  | none => rfl
  | some D =>
    simp only
    cases h2 : ahL D f with
    | none => rfl
    | some P =>
      simp only
      rcases h with h | h
      · unfold undL at h; rw [h1] at h; simp only at h; rw [h2] at h; cases h
      · rw [h]
theorem mov_some {s f t : List UInt8} {D P E : List (List Av)} (h1 : nrD s = some D) (h2 : ahL D f = some P) (h3 : nrD t = some E) : movL s f t = joL P E := by
  unfold movL; rw [h1]; simp only; rw [h2]; simp only; rw [h3]
end Go.Proofs.YtbihhdkmmlldnaaGreatDoor
