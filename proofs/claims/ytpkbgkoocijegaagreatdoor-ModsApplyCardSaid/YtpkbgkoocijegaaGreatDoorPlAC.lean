/- Where names stand: how long a part is, names joined, and the closure that tells the parts. Whether a text is normal, how many parts it has, what stands ahead, names joined. Parent, Leaf, Depth, Under, Join, Move, for all texts. -/
import Derived.Test.YtpkbgkoocijegaaGreatDoorPlMN
import Derived.Test.YtpkbgkoocijegaaGreatDoorDqE
import Derived.BigQuiet
set_option linter.unusedVariables false
set_option linter.unusedSimpArgs false
set_option maxHeartbeats 25600000
set_option maxRecDepth 100000
namespace Go.Proofs.YtpkbgkoocijegaaGreatDoor
open Go Go.RowKit Go.Proofs.BerK Go.Proofs.MemK Go.Proofs.UtfK
theorem psz_slash (s : ByteArray) (i : Nat) (h : i < s.size) (hc : s[i] = 92) : min (i + 1 + 1) s.size + (psL (s.data.toList.drop (i + 1 + 1))).length = min i s.size + (psL (s.data.toList.drop i)).length := by
 have hl := len_list s
 have hd := drop_at s.data.toList i (by omega)
 rw [at_list s i h, hc] at hd
 have e2 : (92 :: s.data.toList.drop (i + 1)).drop 2 = s.data.toList.drop (i + 1 + 1) := by rw [<- hd, List.drop_drop]
 rw [hd, psL_slash, e2, List.length_append, <- hd, List.length_take, List.length_drop]
 omega
theorem psz_comma (s : ByteArray) (i : Nat) (h : i < s.size) (hc : s[i] = 44) : min i s.size + (psL (s.data.toList.drop i)).length = i := by
 have hl := len_list s
 have hd := drop_at s.data.toList i (by omega)
 rw [at_list s i h, hc] at hd
 rw [hd, psL_comma]
 simp; omega
theorem psz_else (s : ByteArray) (i : Nat) (h : i < s.size) (h1 : s[i] ≠ 92) (h2 : s[i] ≠ 44) : min (i + 1) s.size + (psL (s.data.toList.drop (i + 1))).length = min i s.size + (psL (s.data.toList.drop i)).length := by
 have hl := len_list s
 have hd := drop_at s.data.toList i (by omega)
 rw [at_list s i h] at hd
 rw [hd, psL_else _ _ h1 h2]
 simp; omega
theorem psz_end (s : ByteArray) (i : Nat) (h : s.size <= i) : min i s.size + (psL (s.data.toList.drop i)).length = s.size := by
 have hl := len_list s
 rw [List.drop_of_length_le (by omega)]
 simp [psL]; omega
theorem ps_len (l : List UInt8) : (psL l).length <= l.length := by
 have h : ∀ (n : Nat) (l : List UInt8), l.length = n -> (psL l).length <= l.length := by
  intro n
  induction n using Nat.strongRecOn with
  | _ n ih =>
   intro l hl
   cases l with
   | nil => simp [psL]
   | cons c r =>
    by_cases h92 : c = 92
    ·subst h92
     rw [psL_slash, List.length_append]
     have hd : ((92 :: r).drop 2).length = (92 :: r : List UInt8).length - 2 := by simp
     have := ih ((92 :: r).drop 2).length (by rw [hd]; simp at hl ⊢; omega) _ rfl
     have : ((92 :: r : List UInt8).take 2).length = min 2 (92 :: r : List UInt8).length := List.length_take
     omega
    ·by_cases h44 : c = 44
     ·subst h44; rw [psL_comma]; simp
     ·rw [psL_else _ _ h92 h44]
      have := ih r.length (by simp at hl; omega) r rfl
      simp; omega
 exact h _ l rfl
theorem psize_any (s : ByteArray) (hs : s.size <= 140737488355328) (w : World) : Calls Tryz.prog 190 #[.string s] w (PureI ((psL s.data.toList).length : Nat) w) := by
 obtain ⟨R, hR⟩ : ∃ R, (psL s.data.toList).length = R := ⟨_, rfl⟩
 rw [hR]
 go_enter Tryz.func190, Tryz.ntmps190
 go_wp2
 go_loop [3] (fun v => ∃ i : Nat, i <= s.size + 1 /\ v = .int .i64 (i : Nat) /\ min i s.size + (psL (s.data.toList.drop i)).length = R) (fun v => s.size + 1 - (intOf v).toNat)
 case atStart => exact ⟨0, by omega, rfl, by rw [List.drop_zero, hR]; omega⟩
 case round =>
  obtain ⟨i, hi, rfl, hinv⟩ := hrel
  by_cases hlt : i < s.size
  ·have hil : (i : Int) < (s.size : Int) := by omega
   have h8 : s[i].toNat < 256 := s[i].toNat_lt
   have HC := Hy (An (psz_slash s i hlt) (An (psz_comma s i hlt) (psz_else s i hlt)))
   have H := Hy hinv
   clear hinv
   obtain ⟨c, hc⟩ : ∃ c, s[i] = c := ⟨_, rfl⟩
   rw [hc] at h8 HC
   by_cases h92 : c = 92
   ·have q : ((c.toNat : Int) == 92) = true := by rw [h92]; rfl
    have HI := Hy (HC.out.1 h92)
    clear h92
    go_wp2
    exact ⟨⟨i + 1 + 1, by omega, by go_num, by rw [HI.out]; exact H.out⟩, by simp [intOf]; omega⟩
   have q1 : ((c.toNat : Int) == 92) = false := by rw [beq_eq_false_iff_ne]; intro hh; apply h92; apply UInt8.toNat_inj.1; show _ = 92; omega
   by_cases h44 : c = 44
   ·have q2 : ((c.toNat : Int) == 44) = true := by rw [h44]; rfl
    have HI := Hy (HC.out.2.1 h44)
    clear h92 h44
    go_wp2
    go_ret
    refine ⟨?_, rfl⟩
    rw [<- H.out, HI.out]; rfl
   ·have q2 : ((c.toNat : Int) == 44) = false := by rw [beq_eq_false_iff_ne]; intro hh; apply h44; apply UInt8.toNat_inj.1; show _ = 44; omega
    have HI := Hy (HC.out.2.2 h92 h44)
    clear h92 h44
    go_wp2
    exact ⟨⟨i + 1, by omega, by go_num, by rw [HI.out]; exact H.out⟩, by simp [intOf]; omega⟩
  ·have hil : ¬ ((i : Int) < (s.size : Int)) := by omega
   have HI := Hy (psz_end s i (by omega))
   have H := Hy hinv
   clear hinv
   go_wp2
   go_ret
   refine ⟨?_, rfl⟩
   rw [<- H.out, HI.out]; rfl
theorem list_e {l : List UInt8} (h : l = []) : l.isEmpty = true := by subst h; rfl
theorem list_ne {l : List UInt8} (h : l ≠ []) : l.isEmpty = false := by cases l <;> simp_all
def TxAt (w : World) (b : Nat) (x : List UInt8) (t : TypeId) : Prop := w.heap[b]? = some (.cells #[.string ⟨x.toArray⟩] t (0, 0))
theorem tx_cell {w : World} {b : Nat} {x : List UInt8} {t : TypeId} (h : TxAt w b x t) : w.cell? ⟨b, 0, none⟩ = some (.string ⟨x.toArray⟩) := obj_cell h 0 _ rfl
theorem tx_free {w : World} {b : Nat} {x : List UInt8} {t : TypeId} (h : TxAt w b x t) : w.frozen? ⟨b, 0, none⟩ = false := obj_free h 0
theorem tx_lt {w : World} {b : Nat} {x : List UInt8} {t : TypeId} (h : TxAt w b x t) : b < w.heap.size := obj_lt h
theorem tx_set {w : World} {b : Nat} {x y : List UInt8} {t : TypeId} (h : TxAt w b x t) : TxAt (w.setCell ⟨b, 0, none⟩ (.string ⟨y.toArray⟩)) b y t := obj_set h 0 _
theorem tx_dn {w : World} {b : Nat} {x : List UInt8} {t : TypeId} (h : TxAt w b x t) (n : Nat) : TxAt (w.drewN n) b x t := h
def NxPost (p q : List UInt8) (ok : Bool) (b : Nat) (t : TypeId) (w : World) (en : Ending) (w' : World) : Prop :=
 en = .returned (.tuple #[.string ⟨p.toArray⟩, .string ⟨q.toArray⟩, .bool ok]) /\ TxAt w' b q t /\ Chg (fun k => k = b) w w'
theorem nx_nil (b : Nat) (w : World) (h : TxAt w b [] 9) : Calls Tryz.prog 189 #[.pointer (some ⟨b, 0, none⟩)] w (NxPost [] [] false b 9 w) := by
 have c := tx_cell h
 have H := Hy h
 clear h
 go_enter Tryz.func189, Tryz.ntmps189
 go_wp2
 go_ret3
 exact ⟨rfl, H.out, Chg.refl _ _⟩
def rsL (x : List UInt8) : List UInt8 := (x.drop (psL x).length).drop 1
theorem ex_take (x : List UInt8) (n : Nat) : (⟨x.toArray⟩ : ByteArray).extract 0 n = ⟨(x.take n).toArray⟩ := by
 rw [<- mk_list (ByteArray.extract _ _ _), Lib.extract_data, List.drop_zero, Nat.sub_zero]
theorem ex_drop (x : List UInt8) (n : Nat) : (⟨x.toArray⟩ : ByteArray).extract n x.length = ⟨(x.drop n).toArray⟩ := by
 rw [<- mk_list (ByteArray.extract _ _ _), show x.length = (⟨x.toArray⟩ : ByteArray).size from rfl, Lib.extract_to_end]
theorem ps_take (x : List UInt8) : x.take (psL x).length = psL x := by
 have h : ∀ (n : Nat) (x : List UInt8), x.length = n -> x.take (psL x).length = psL x := by
  intro n
  induction n using Nat.strongRecOn with
  | _ n ih =>
   intro l hl
   cases l with
   | nil => simp [psL]
   | cons c r =>
    by_cases h92 : c = 92
    ·subst h92
     cases r with
     | nil => simp [psL]
     | cons d r =>
      have := ih r.length (by simp at hl; omega) r rfl
      simp [psL, this]
    ·by_cases h44 : c = 44
     ·subst h44; rw [psL_comma]; simp
     ·have := ih r.length (by simp at hl; omega) r rfl
      rw [psL_else _ _ h92 h44]
      simp [this]
 exact h _ x rfl
theorem nx_any (x : List UInt8) (hx : x ≠ []) (hl : x.length <= 35184372088832) (b : Nat) (w : World) (h : TxAt w b x 9) : Calls Tryz.prog 189 #[.pointer (some ⟨b, 0, none⟩)] w (NxPost (psL x) (rsL x) true b 9 w) := by
 have HP := Hy (psize_any ⟨x.toArray⟩ (show x.length <= _ by omega))
 change Hid (∀ w, Calls Tryz.prog _ _ w (PureI ((psL x).length : Nat) w)) at HP
 have hpl := ps_len x
 have e1 := ex_take x (psL x).length
 rw [ps_take] at e1
 have e2 := ex_drop x (psL x).length
 have hrl : (x.drop (psL x).length).length = x.length - (psL x).length := List.length_drop
 have hrs : rsL x = (x.drop (psL x).length).drop 1 := rfl
 rw [hrs]
 obtain ⟨P, hP⟩ : ∃ P, psL x = P := ⟨_, rfl⟩
 rw [hP] at HP hpl e1 e2 hrl ⊢
 obtain ⟨K, hK⟩ : ∃ K, P.length = K := ⟨_, rfl⟩
 rw [hK] at HP hpl e1 e2 hrl ⊢
 obtain ⟨R, hR⟩ : ∃ R, x.drop K = R := ⟨_, rfl⟩
 rw [hR] at e2 hrl ⊢
 have q := list_ne hx
 have H := Hy h
 have l0 := tx_lt h
 have c0 := tx_cell h
 have f0 := tx_free h
 have q1 : (K : Int) <= (x.length : Int) := by omega
 have q2 : (0 : Int) <= (K : Int) := by omega
 have HK := Hy hK
 clear hrs hR h hP hx hK hrl
 by_cases hr : R = []
 ·have hr2 := list_e hr
  have HR := Hy (show R.drop 1 = R by rw [hr]; rfl)
  clear hr
  go_enter Tryz.func189, Tryz.ntmps189
  go_wp2
  go_quiet (first | (go_at_call 190; exact Calls.quiet_of_same (HP.out _)))
  have hK2 := HK.out
  have H2 := Hy (An (tx_set (y := R) (tx_dn H.out nq)) ((Chg.refl (fun k => k = b) w).drewN nq |>.setCell (p := ⟨b, 0, none⟩) (fun _ => rfl) (.string ⟨R.toArray⟩)))
  go_wp2
  obtain ⟨W, hW⟩ : ∃ W, (w.drewN nq).setCell ⟨b, 0, none⟩ (.string ⟨R.toArray⟩) = W := ⟨_, rfl⟩
  rw [hW] at H2 ⊢
  have c1 := tx_cell H2.out.1
  go_quiet (fail)
  go_wp2
  go_ret3
  refine ⟨by rw [HR.out]; rfl, ?_, ?_⟩
  ·rw [HR.out]; exact tx_dn H2.out.1 nq
  ·exact H2.out.2.drewN nq
 ·have hr2 := list_ne hr
  have e3 := ex_drop R 1
  have q3 : (1 : Int) <= (R.length : Int) := by have := List.length_pos_iff.2 hr; omega
  have q4 : 1 <= R.length := List.length_pos_iff.2 hr
  clear hr
  obtain ⟨Z, hZ⟩ : ∃ Z, R.drop 1 = Z := ⟨_, rfl⟩
  rw [hZ] at e3 ⊢
  clear hZ
  go_enter Tryz.func189, Tryz.ntmps189
  go_wp2
  go_quiet (first | (go_at_call 190; exact Calls.quiet_of_same (HP.out _)))
  have hK2 := HK.out
  have H2 := Hy (An (tx_set (y := Z) (tx_set (y := R) (tx_dn H.out nq))) (((Chg.refl (fun k => k = b) w).drewN nq |>.setCell (p := ⟨b, 0, none⟩) (fun _ => rfl) (.string ⟨R.toArray⟩)).setCell (p := ⟨b, 0, none⟩) (fun _ => rfl) (.string ⟨Z.toArray⟩)))
  go_wp2
  obtain ⟨W, hW⟩ : ∃ W, ((w.drewN nq).setCell ⟨b, 0, none⟩ (.string ⟨R.toArray⟩)).setCell ⟨b, 0, none⟩ (.string ⟨Z.toArray⟩) = W := ⟨_, rfl⟩
  rw [hW] at H2 ⊢
  have c1 := tx_cell H2.out.1
  go_quiet (fail)
  go_wp2
  go_ret3
  exact ⟨rfl, tx_dn H2.out.1 nq, H2.out.2.drewN nq⟩
theorem nx_cons (r : List Av) (D : List (List Av)) (hg : GD (r :: D)) (b : Nat) (w : World) (h : TxAt w b (nmL (r :: D)) 9) : Calls Tryz.prog 189 #[.pointer (some ⟨b, 0, none⟩)] w (NxPost (ptL r) (nmL D) true b 9 w) := by
 have hn := nr_ne (hg.2.1 r (by simp))
 have hne : nmL (r :: D) ≠ [] := nm_ne (fun q hq => nr_ne (hg.2.1 q hq)) (by simp)
 have e1 : psL (nmL (r :: D)) = ptL r := ps_nm r D fun p hp => ((pr_ty (hg.2.1 r (by simp)).1).2 p hp).1
 have e2 : rsL (nmL (r :: D)) = nmL D := by
  unfold rsL
  rw [e1, nm_cons, List.drop_left]
  by_cases hD : D = []
  ·subst hD; rfl
  ·rw [nm_tail D hD]; rfl
 have := nx_any (nmL (r :: D)) hne (by have := hg.2.2; omega) b w h
 rw [e1, e2] at this
 exact this
theorem parts_any (s : ByteArray) (w : World) : Calls Tryz.prog 148 #[.string s] w
  (fun e w' => e = .returned (.func (.func 189) #[] #[.pointer (some ⟨w.heap.size, 0, none⟩)]) /\ TxAt w' w.heap.size s.data.toList 9 /\ Below w.heap.size w w') := by
 have hs := mk_list s
 have hB : Below w.heap.size w (w.alloc (.cells #[.string s] 9)) := (Below.refl _ w).alloc (Nat.le_refl _) _
 have hT : TxAt (w.alloc (.cells #[.string s] 9)) w.heap.size s.data.toList 9 := by unfold TxAt; rw [hs]; exact heap_alloc_new w _
 have H := Hy (An hT hB)
 clear hT hB hs
 go_enter Tryz.func148, Tryz.ntmps148
 go_wp2
 go_ret
 exact ⟨rfl, H.out.1, H.out.2⟩
theorem nr_is (s : List UInt8) (X : List UInt8) (n : Nat) (h : noD s = (X, n)) : (nrD s).isSome = (decide (n = 0) && (X == s)) := by
 unfold nrD
 rw [h]
 by_cases h1 : n = 0
 ·by_cases h2 : X = s
  ·subst h1 h2; simp
  ·have : ((X, n) : List UInt8 × Nat) ≠ (s, 0) := fun e => h2 (Prod.mk.inj e).1
   rw [if_neg this]; simp [h2]
 ·have : ((X, n) : List UInt8 × Nat) ≠ (s, 0) := fun e => h1 (Prod.mk.inj e).2
  rw [if_neg this]; simp [h1]
theorem isnorm_any (s : ByteArray) (w : World) (he : ErrOk w) : Calls Tryz.prog 147 #[.string s] w (BoolPost (nrD s.data.toList).isSome w) := by
 have HN := Hy (dnorm_any s w he)
 have HI := Hy (nr_is s.data.toList)
 obtain ⟨p, hp⟩ : ∃ p, noD s.data.toList = p := ⟨_, rfl⟩
 rw [hp] at HN HI
 obtain ⟨X, n⟩ := p
 clear he hp
 have H := Hy (HI.out X n rfl)
 clear HI
 by_cases hn : n = 0
 ·subst hn
  go_enter Tryz.func147, Tryz.ntmps147
  go_wp2_with fail
  refine HN.out.mono ?_
  rintro e w2 ⟨rfl, hb⟩
  go_wp2
  go_ret
  refine boolPost_mk ?_ hb
  rw [H.out]
  simp [ByteArray.toList_eq]
 ·have hq : ((n : Int) == 0) = false := by rw [beq_eq_false_iff_ne]; omega
  have HF := Hy (show (nrD s.data.toList).isSome = false by rw [H.out]; simp [hn])
  clear hn H
  go_enter Tryz.func147, Tryz.ntmps147
  go_wp2_with fail
  refine HN.out.mono ?_
  rintro e w2 ⟨rfl, hb⟩
  go_wp2
  go_ret
  exact boolPost_mk HF.out hb
theorem isnorm_c (s : List UInt8) (b : Bool) (h : (nrD s).isSome = b) (w : World) (he : ErrOk w) : Calls Tryz.prog 147 #[.string ⟨s.toArray⟩] w (BoolPost b w) := by
 have := isnorm_any ⟨s.toArray⟩ w he
 rw [<- h]; exact this
theorem chg_below {b B : Nat} {w0 w w' : World} (hw : B <= w0.heap.size) (hb : Below B w0 w) (hB : B <= b) (h : Chg (fun k => k = b) w w') : Below B w0 w' :=
 hb.trans (h.toBelow (Nat.le_trans hw hb.size) (fun k _ e => e ▸ hB))
def SbPost (p : List UInt8 × Bool) (w : World) (en : Ending) (w' : World) : Prop := en = .returned (.tuple #[.string ⟨p.1.toArray⟩, .bool p.2]) /\ Below w.heap.size w w'
theorem sbPost_mk {p : List UInt8 × Bool} {a : List UInt8} {b : Bool} {w w' : World} (h : p = (a, b)) (hb : Below w.heap.size w w') : SbPost p w (.returned (.tuple #[.string ⟨a.toArray⟩, .bool b])) w' := by subst h; exact ⟨rfl, hb⟩
def owL (s : List UInt8) : List UInt8 × List UInt8 × Bool := match nrD s with | some (r :: D) => (ptL r, nmL D, true) | _ => ([], [], false)
def OwPost (p : List UInt8 × List UInt8 × Bool) (w : World) (en : Ending) (w' : World) : Prop := en = .returned (.tuple #[.string ⟨p.1.toArray⟩, .string ⟨p.2.1.toArray⟩, .bool p.2.2]) /\ Below w.heap.size w w'
theorem owPost_mk {p : List UInt8 × List UInt8 × Bool} {a b : List UInt8} {c : Bool} {w w' : World} (h : p = (a, b, c)) (hb : Below w.heap.size w w') : OwPost p w (.returned (.tuple #[.string ⟨a.toArray⟩, .string ⟨b.toArray⟩, .bool c])) w' := by subst h; exact ⟨rfl, hb⟩
theorem ow_none {s : List UInt8} (h : nrD s = none \/ nrD s = some []) : owL s = ([], [], false) := by unfold owL; rcases h with h | h <;> rw [h]
theorem ow_cons {s : List UInt8} {r : List Av} {D : List (List Av)} (h : nrD s = some (r :: D)) : owL s = (ptL r, nmL D, true) := by unfold owL; rw [h]
theorem leaf_ow (s : List UInt8) : leafL s = ((owL s).1, (owL s).2.2) := by
 rcases nr_ways s with h | ⟨r, D, h⟩
 ·rw [leaf_none h, ow_none h]
 ·rw [leaf_cons h, ow_cons h]
theorem own_any (s : List UInt8) (w : World) (he : ErrOk w) : Calls Tryz.prog 93 #[.string ⟨s.toArray⟩] w (OwPost (owL s) w) := by
 by_cases h : nrD s = none
 ·have HI := Hy (isnorm_c s false (by rw [h]; rfl) w he)
  have HO := Hy (ow_none (.inl h))
  clear h he
  go_enter Tryz.func93, Tryz.ntmps93
  go_wp2_with fail
  refine HI.out.mono ?_
  rintro e w0 ⟨rfl, hb0⟩
  go_wp2
  go_ret3
  exact owPost_mk (a := []) (b := []) (c := false) HO.out hb0
 ·obtain ⟨D, h⟩ := Option.ne_none_iff_exists'.1 h
  have HI := Hy (isnorm_c s true (by rw [h]; rfl) w he)
  obtain ⟨hs, hg⟩ := nr_some h
  have HP := Hy (parts_any ⟨s.toArray⟩)
  change Hid (∀ w, Calls Tryz.prog _ _ w (fun e w' => e = .returned (.func (.func 189) #[] #[.pointer (some ⟨w.heap.size, 0, none⟩)]) /\ TxAt w' w.heap.size s 9 /\ Below w.heap.size w w')) at HP
  have hx : ∃ p q b, owL s = (p, q, b) /\ ∀ B w, TxAt w B s 9 -> Calls Tryz.prog 189 #[.pointer (some ⟨B, 0, none⟩)] w (NxPost p q b B 9 w) := by
   cases D with
   | nil => exact ⟨[], [], false, ow_none (.inr h), fun B w ht => nx_nil B w (by rw [hs] at ht; exact ht)⟩
   | cons r D => exact ⟨_, _, true, ow_cons h, fun B w ht => nx_cons r D hg B w (by rw [hs] at ht; exact ht)⟩
  obtain ⟨p, q, b, hx1, hx2⟩ := hx
  have HX1 := Hy hx1
  have HX2 := Hy hx2
  clear hx1 hx2 hs hg h he
  go_enter Tryz.func93, Tryz.ntmps93
  go_wp2_with fail
  refine HI.out.mono ?_
  rintro e w0 ⟨rfl, hb0⟩
  have H0 := Hy hb0
  clear hb0
  go_wp2_with fail
  refine (HP.out w0).mono ?_
  rintro e w1 ⟨rfl, ht, hb⟩
  have HC := Hy (HX2.out _ _ ht)
  have H1 := Hy (An H0.out.size (H0.out.trans (hb.mono H0.out.size)))
  clear ht hb
  go_wp2_with fail
  refine HC.out.mono ?_
  rintro e w2 ⟨rfl, ht2, hc2⟩
  have H2 := Hy (chg_below (Nat.le_refl _) H1.out.2 H1.out.1 hc2)
  clear ht2 hc2
  go_wp2
  go_ret3
  exact owPost_mk HX1.out H2.out
theorem leaf_any (s : List UInt8) (w : World) (he : ErrOk w) : Calls Tryz.prog 45 #[.string ⟨s.toArray⟩] w (SbPost (leafL s) w) := by
 have HO := Hy (own_any s w he)
 have HE := Hy (leaf_ow s)
 obtain ⟨x, hx⟩ : ∃ x, owL s = x := ⟨_, rfl⟩
 rw [hx] at HO HE
 obtain ⟨p, q, b⟩ := x
 clear hx he
 go_enter Tryz.func45, Tryz.ntmps45
 go_wp2_with fail
 refine HO.out.mono ?_
 rintro e w0 ⟨rfl, hb0⟩
 go_wp2
 go_ret2
 exact sbPost_mk HE.out hb0
end Go.Proofs.YtpkbgkoocijegaaGreatDoor
