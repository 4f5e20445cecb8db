/- Plain facts on entries made other ones: what one modification makes of clean attributes, or the code. Plain facts on entries made other ones: the code's way of counting, and what is put in and taken out again. Plain facts beside. Contracts of the library laid at this program, in plain words. -/
import Derived.Test.YtpkbgkoocijegaaGreatDoorEnFI
import Derived.Test.YtpkbgkoocijegaaGreatDoorEnCE
import Derived.Test.YtpkbgkoocijegaaGreatDoorEnQT
import Derived.Test.YtpkbgkoocijegaaGreatDoorSnAL
import Derived.Test.YtpkbgkoocijegaaGreatDoorRuAD
import Derived.Test.YtpkbgkoocijegaaGreatDoorScAD
import Derived.Test.YtpkbgkoocijegaaGreatDoorDtAC
import Derived.Test.YtpkbgkoocijegaaGreatDoorSnUW
import Derived.Test.YtpkbgkoocijegaaGreatDoorEnUW
import Derived.Shelf.Spec.SlicesGrow
import Derived.Ground.Names8Prog
import Derived.Test.YtpkbgkoocijegaaGreatDoorChecked
set_option linter.unusedVariables false
set_option linter.unusedSimpArgs false
set_option maxHeartbeats 25600000
set_option maxRecDepth 100000
namespace Go.Proofs.YtpkbgkoocijegaaGreatDoor
open Go Go.Sort
theorem getDM (l : List (List UInt8)) (i : Nat) (h : i < l.length) : l.getD i [] = l[i] := by rw [List.getD_eq_getElem?_getD, List.getElem?_eq_getElem h]; rfl
def mdTw (r : Int) (vs : List (List UInt8)) : Bool := (List.range vs.length).any fun i => (List.range i).any fun k => sameQ r (vs.getD i []) (vs.getD k [])
theorem mdTw_ex {r : Int} {vs : List (List UInt8)} : mdTw r vs = true ↔ ∃ i, ∃ k, ∃ (hi : i < vs.length) (hk : k < vs.length), k < i /\ sameQ r vs[i] vs[k] = true := by
 unfold mdTw
 simp only [List.any_eq_true, List.mem_range]
 constructor
 ·rintro ⟨i, hi, k, hk, h⟩
  have hk2 : k < vs.length := by omega
  rw [getDM _ _ hi, getDM _ _ hk2] at h
  exact ⟨i, k, hi, hk2, hk, h⟩
 ·rintro ⟨i, k, hi, hk, hki, h⟩
  refine ⟨i, hi, k, hki, ?_⟩
  rw [getDM _ _ hi, getDM _ _ hk]
  exact h
def outQ (r : Int) (v : List UInt8) : List (List UInt8) -> Option (List (List UInt8))
 | [] => none
 | x :: l => if sameQ r v x = true then some l else (outQ r v l).map (x :: ·)
def dropQ (r : Int) : List (List UInt8) -> List (List UInt8) -> Option (List (List UInt8))
 | l, [] => some l
 | l, v :: vs => match outQ r v l with
  | none => none
  | some k => dropQ r k vs
abbrev Md := Int × Atr
def mdAdd (r : Int) (L : List Atr) (n : List UInt8) (vs : List (List UInt8)) : List Atr × Int :=
 if vs = [] then ([], 19) else if mdTw r vs = true then ([], 20) else if (vs.any fun v => (geL L n).any (sameQ r v)) = true then ([], 20) else (clA (L ++ [(n, vs)]), 0)
def mdDel (r : Int) (L : List Atr) (n : List UInt8) (vs : List (List UInt8)) : List Atr × Int :=
 if vs = [] then (if geL L n = [] then ([], 16) else (woL L n, 0)) else match dropQ r (geL L n) vs with
  | none => ([], 16)
  | some l => (clA (woL L n ++ [(n, l)]), 0)
def mdRep (r : Int) (L : List Atr) (n : List UInt8) (vs : List (List UInt8)) : List Atr × Int := if mdTw r vs = true then ([], 20) else (clA (woL L n ++ [(n, vs)]), 0)
def mdOp (op r : Int) (L : List Atr) (n : List UInt8) (vs : List (List UInt8)) : List Atr × Int := if op = 0 then mdAdd r L n vs else if op = 1 then mdDel r L n vs else if op = 2 then mdRep r L n vs else ([], 2)
def mdOk (r : Int) (vs : List (List UInt8)) : Bool := vs.all fun v => (ruN r v).2
def mdOne (L : List Atr) (m : Md) : List Atr × Int := match scT plT m.2.1 with
 | none => ([], 17)
 | some t => if mdOk t.2.1 m.2.2 = true then mdOp m.1 t.2.1 L m.2.1 m.2.2 else ([], 21)
def mdAll (L : List Atr) : List Md -> List Atr × Int
 | [] => (L, 0)
 | m :: l => if (mdOne L m).2 = 0 then mdAll (mdOne L m).1 l else ([], (mdOne L m).2)
theorem ge_lowN (A : List Atr) (s : List UInt8) : geL A (lowL s) = geL A s := by unfold geL; rw [lowL_lowL]
theorem wo_lowN (A : List Atr) (s : List UInt8) : woL A (lowL s) = woL A s := by unfold woL; rw [lowL_lowL]
theorem cl_lowN (A : List Atr) (s : List UInt8) (V : List (List UInt8)) : clA (A ++ [(lowL s, V)]) = clA (A ++ [(s, V)]) := by rw [<- put_cl, <- put_cl, lowL_lowL]
theorem mdOp_low (op r : Int) (L : List Atr) (s : List UInt8) (vs : List (List UInt8)) : mdOp op r L (lowL s) vs = mdOp op r L s vs := by
 unfold mdOp mdAdd mdDel mdRep
 simp only [ge_lowN, wo_lowN, cl_lowN]
theorem cl_clM (A : List Atr) : clA (clA A) = clA A := by
 refine (cl_of (A := clA A) ⟨(cl_is A).1, fun p => ?_⟩).symm
 rw [va_cl, on_on]
 exact (cl_is A).2 p
theorem va_selfM {L : List Atr} (hr : L.Pairwise (fun p q => p.1 < q.1)) (hlow : ∀ p ∈ L, lowL p.1 = p.1) {p : Atr} (hp : p ∈ L) : vaL L p.1 = p.2 := by
 induction L with
 | nil => simp at hp
 | cons q L ih =>
  rw [List.pairwise_cons] at hr
  have e : vaL (q :: L) p.1 = (if lowL q.1 = p.1 then q.2 else []) ++ vaL L p.1 := by
   unfold vaL
   rw [List.filter_cons]
   by_cases h : lowL q.1 = p.1 <;> simp [h]
  rw [e, hlow q (by simp)]
  rcases List.mem_cons.1 hp with rfl | hp
  ·rw [if_pos rfl]
   have : vaL L p.1 = [] := by
    by_cases h0 : vaL L p.1 = []
    ·exact h0
    ·obtain ⟨a, ha, _, hl⟩ := va_ne.1 h0
     rw [hlow a (List.mem_cons_of_mem _ ha)] at hl
     have := hr.1 a ha
     rw [hl] at this
     exact absurd this (List.lt_irrefl _)
   rw [this, List.append_nil]
  ·have hlt := hr.1 p hp
   rw [if_neg (fun h => by rw [h] at hlt; exact absurd hlt (List.lt_irrefl _)), List.nil_append]
   exact ih hr.2 (fun x hx => hlow x (List.mem_cons_of_mem _ hx)) hp
theorem cl_selfM {L : List Atr} (hr : L.Pairwise (fun p q => p.1 < q.1)) (hlow : ∀ p ∈ L, lowL p.1 = p.1) (hn : ∀ p ∈ L, p.2 ≠ []) (hd : ∀ p ∈ L, p.2.Nodup) : clA L = L := by
 refine (cl_of (A := L) ⟨hr, fun p => ?_⟩).symm
 constructor
 ·intro hp
  exact ⟨by rw [va_selfM hr hlow hp, on_self (hd p hp)], hn p hp⟩
 ·rintro ⟨h1, h2⟩
  have hv : vaL L p.1 ≠ [] := fun e => h2 (by rw [h1, e]; rfl)
  obtain ⟨a, ha, _, hl⟩ := va_ne.1 hv
  rw [hlow a ha] at hl
  have := va_selfM hr hlow ha
  rw [hl] at this
  rw [this, on_self (hd a ha)] at h1
  have : p = a := Prod.ext hl.symm h1
  rw [this]; exact ha
theorem cl_filterM (A : List Atr) (p : Atr -> Bool) : clA ((clA A).filter p) = (clA A).filter p := by
 have hc := cl_is A
 refine cl_selfM (List.Pairwise.sublist List.filter_sublist hc.1) (fun q hq => cl_low (List.mem_filter.1 hq).1) (fun q hq => ((hc.2 q).1 (List.mem_filter.1 hq).1).2) (fun q hq => ?_)
 rw [((hc.2 q).1 (List.mem_filter.1 hq).1).1]
 exact on_nodup _
structure Cln (m k : Nat) (L : List Atr) : Prop where
 cl : clA L = L
 few : FewG m k L
theorem cln_cl {m k : Nat} {A : List Atr} (h : FewG m k A) : Cln m (k * m) (clA A) := ⟨cl_clM A, fewG_cl h⟩
theorem cln_mono {m k m' k' : Nat} {L : List Atr} (h : Cln m k L) (h1 : m <= m') (h2 : k <= k') : Cln m' k' L := ⟨h.cl, fewG_mono h.few h1 h2⟩
theorem cln_va {m k : Nat} {L : List Atr} (h : Cln m k L) (n : List UInt8) : (vaL L n).length <= k /\ ∀ s ∈ vaL L n, s.length <= 100000 := by
 have e : vaL L n = onL (vaL L n) := by
  conv => lhs; rw [<- h.cl]
  exact va_cl L n
 by_cases h0 : vaL L n = []
 ·rw [h0]; simp
 ·have hm : (n, onL (vaL L n)) ∈ L := by
   have := ((cl_is L).2 (n, onL (vaL L n))).2 ⟨rfl, fun e => h0 (on_nil.1 e)⟩
   rwa [h.cl] at this
  have := h.few.2 _ hm
  rw [<- e] at this
  exact this.2
theorem cln_ge {m k : Nat} {L : List Atr} (h : Cln m k L) (n : List UInt8) : (geL L n).length <= k /\ ∀ s ∈ geL L n, s.length <= 100000 := by
 have := cln_va h (lowL n)
 exact ⟨Nat.le_trans (onL_len _) this.1, fun s hs => this.2 s (on_mem.1 hs)⟩
theorem cln_wo {m k : Nat} {L : List Atr} (h : Cln m k L) (n : List UInt8) : Cln m k (woL L n) := by
 refine ⟨cl_filterM L _, ?_⟩
 unfold woL
 rw [h.cl]
 exact fewG_filter h.few _
theorem va_one (t n : List UInt8) (V : List (List UInt8)) : vaL [(t, V)] n = if lowL t = n then V else [] := by
 unfold vaL
 by_cases h : lowL t = n <;> simp [h]
theorem va_wo (L : List Atr) (n : List UInt8) : vaL (woL L n) (lowL n) = [] := by
 by_cases e : vaL (woL L n) (lowL n) = []
 ·exact e
 ·obtain ⟨p, hp, _, hl⟩ := va_ne.1 e
  unfold woL at hp
  obtain ⟨h1, h2⟩ := List.mem_filter.1 hp
  rw [cl_low h1] at hl
  simp [hl] at h2
theorem few_of_cl {m k : Nat} {A : List Atr} (hl : A.length <= m) (hn : ∀ a ∈ A, a.1.length <= 100000) (hv : ∀ n, (vaL A n).length <= k /\ ∀ s ∈ vaL A n, s.length <= 100000) : FewG m k (clA A) := by
 refine ⟨?_, fun p hp => ?_⟩
 ·have e : (clA A).length = (nmN A).length := by
   unfold clA clNs nmN risL
   rw [List.length_map, List.length_mergeSort]
  rw [e]
  exact Nat.le_trans (nm_len A) hl
 ·obtain ⟨h1, h2⟩ := (cl_is A).2 p |>.1 hp
  have hv2 : vaL A p.1 ≠ [] := fun e => h2 (by rw [h1, e]; rfl)
  obtain ⟨h3, h4⟩ := hv p.1
  refine ⟨?_, by rw [h1]; exact Nat.le_trans (onL_len _) h3, fun s hs => ?_⟩
  ·obtain ⟨a, ha, _, e⟩ := va_ne.1 hv2
   rw [<- e]
   have := hn a ha
   simpa [lowL] using this
  ·rw [h1, on_mem] at hs
   exact h4 s hs
theorem cln_with {m k j : Nat} {L : List Atr} (h : Cln m k L) {t : List UInt8} {V : List (List UInt8)} (ht : t.length <= 100000) (hV : V.length <= j) (hs : ∀ s ∈ V, s.length <= 100000) : Cln (m + 1) (k + j) (clA (L ++ [(t, V)])) := by
 refine ⟨cl_clM _, few_of_cl ?_ ?_ ?_⟩
 ·have := h.few.1
  rw [List.length_append, List.length_singleton]; omega
 ·intro a ha
  rcases List.mem_append.1 ha with ha | ha
  ·exact (h.few.2 a ha).1
  ·rw [List.mem_singleton] at ha; subst ha; exact ht
 ·intro n
  rw [va_app, va_one]
  have := cln_va h n
  split
  ·refine ⟨by rw [List.length_append]; omega, fun s hs' => ?_⟩
   rcases List.mem_append.1 hs' with hs' | hs'
   ·exact this.2 s hs'
   ·exact hs s hs'
  ·rw [List.append_nil]; exact ⟨by omega, this.2⟩
theorem cln_set {m k : Nat} {L : List Atr} (h : Cln m k L) {t : List UInt8} {V : List (List UInt8)} (ht : t.length <= 100000) (hV : V.length <= k) (hs : ∀ s ∈ V, s.length <= 100000) : Cln (m + 1) k (clA (woL L t ++ [(t, V)])) := by
 have hw := cln_wo h t
 refine ⟨cl_clM _, few_of_cl ?_ ?_ ?_⟩
 ·have := hw.few.1
  rw [List.length_append, List.length_singleton]; omega
 ·intro a ha
  rcases List.mem_append.1 ha with ha | ha
  ·exact (hw.few.2 a ha).1
  ·rw [List.mem_singleton] at ha; subst ha; exact ht
 ·intro n
  rw [va_app, va_one]
  have := cln_va hw n
  split
  ·rename_i e
   subst e
   rw [va_wo, List.nil_append]
   exact ⟨hV, hs⟩
  ·rw [List.append_nil]; exact this
theorem out_len {r : Int} {v : List UInt8} : ∀ {l k : List (List UInt8)}, outQ r v l = some k -> k.length + 1 = l.length /\ ∀ s ∈ k, s ∈ l := by
 intro l
 induction l with
 | nil => intro k h; cases h
 | cons x l ih =>
  intro k h
  unfold outQ at h
  split at h
  ·injection h with h; subst h
   exact ⟨rfl, fun s hs => List.mem_cons_of_mem _ hs⟩
  ·cases hq : outQ r v l with
   | none => rw [hq] at h; cases h
   | some q =>
    rw [hq] at h
    simp only [Option.map_some] at h
    injection h with h; subst h
    obtain ⟨h1, h2⟩ := ih hq
    refine ⟨by simp; omega, fun s hs => ?_⟩
    rcases List.mem_cons.1 hs with rfl | hs
    ·simp
    ·exact List.mem_cons_of_mem _ (h2 s hs)
theorem drop_lenQ {r : Int} : ∀ {vs l k : List (List UInt8)}, dropQ r l vs = some k -> k.length <= l.length /\ ∀ s ∈ k, s ∈ l := by
 intro vs
 induction vs with
 | nil => intro l k h; injection h with h; subst h; exact ⟨Nat.le_refl _, fun s hs => hs⟩
 | cons v vs ih =>
  intro l k h
  unfold dropQ at h
  cases hq : outQ r v l with
  | none => rw [hq] at h; cases h
  | some q =>
   rw [hq] at h
   obtain ⟨h1, h2⟩ := ih h
   obtain ⟨h3, h4⟩ := out_len hq
   exact ⟨by omega, fun s hs => h4 s (h2 s hs)⟩
theorem cln_one {m k : Nat} {L : List Atr} (h : Cln m k L) {md : Md} (ht : md.2.1.length <= 100000) (hV : md.2.2.length <= 8) (hs : ∀ s ∈ md.2.2, s.length <= 100000) (h0 : (mdOne L md).2 = 0) : Cln (m + 1) (k + 8) (mdOne L md).1 := by
 unfold mdOne at h0 ⊢
 cases hq : scT plT md.2.1 with
 | none => rw [hq] at h0; cases h0
 | some t =>
  rw [hq] at h0
  dsimp only at h0 ⊢
  split at h0
  ·rename_i hok
   rw [if_pos hok]
   unfold mdOp mdAdd mdDel mdRep at h0 ⊢
   by_cases o0 : md.1 = 0
   ·rw [if_pos o0] at h0 ⊢
    split at h0
    ·cases h0
    ·rename_i q1
     rw [if_neg q1]
     split at h0
     ·cases h0
     ·rename_i q2
      rw [if_neg q2]
      split at h0
      ·cases h0
      ·rename_i q3
       rw [if_neg q3]
       exact cln_with h ht hV hs
   ·rw [if_neg o0] at h0 ⊢
    by_cases o1 : md.1 = 1
    ·rw [if_pos o1] at h0 ⊢
     split at h0
     ·rename_i q1
      rw [if_pos q1]
      split at h0
      ·cases h0
      ·rename_i q2
       rw [if_neg q2]
       exact cln_mono (cln_wo h _) (by omega) (by omega)
     ·rename_i q1
      rw [if_neg q1]
      cases hd : dropQ t.2.1 (geL L md.2.1) md.2.2 with
      | none => rw [hd] at h0; cases h0
      | some l =>
       obtain ⟨h1, h2⟩ := drop_lenQ hd
       obtain ⟨h3, h4⟩ := cln_ge h md.2.1
       exact cln_mono (cln_set h ht (by omega) (fun s hs => h4 s (h2 s hs))) (Nat.le_refl _) (by omega)
    ·rw [if_neg o1] at h0 ⊢
     by_cases o2 : md.1 = 2
     ·rw [if_pos o2] at h0 ⊢
      split at h0
      ·cases h0
      ·rename_i q1
       rw [if_neg q1]
       exact cln_set (cln_mono h (Nat.le_refl _) (by omega)) ht (by omega) hs
     ·rw [if_neg o2] at h0; cases h0
  ·cases h0
theorem same_iff {r : Int} {v x : List UInt8} : sameQ r v x = true ↔ (ruN r x).2 = true /\ (ruN r v).2 = true /\ (ruN r x).1 = (ruN r v).1 := by
 unfold sameQ eqP
 by_cases h : (ruN r x).2 = true /\ (ruN r v).2 = true
 ·rw [if_pos h]
  unfold tv
  by_cases e : (ruN r x).1 = (ruN r v).1
  ·simp [e, h.1, h.2]
  ·simp [e, h.1, h.2]
 ·rw [if_neg h]
  constructor
  ·intro h2; cases h2
  ·rintro ⟨h1, h2, _⟩; exact absurd ⟨h1, h2⟩ h
def kyN (r : Int) (v : List UInt8) : List UInt8 := (ruN r v).1
def nkL (r : Int) (l : List (List UInt8)) : List (List UInt8) := (l.filter fun x => (ruN r x).2).map (kyN r)
theorem nk_mem {r : Int} {l : List (List UInt8)} {y : List UInt8} : y ∈ nkL r l ↔ ∃ x ∈ l, (ruN r x).2 = true /\ kyN r x = y := by
 unfold nkL
 simp only [List.mem_map, List.mem_filter]
 constructor
 ·rintro ⟨x, ⟨h1, h2⟩, h3⟩; exact ⟨x, h1, h2, h3⟩
 ·rintro ⟨x, h1, h2, h3⟩; exact ⟨x, ⟨h1, h2⟩, h3⟩
theorem nk_take1 (r : Int) (l : List (List UInt8)) (i : Nat) (h : i < l.length) : nkL r (l.take (i + 1)) = if (ruN r l[i]).2 = true then nkL r (l.take i) ++ [kyN r l[i]] else nkL r (l.take i) := by
 rw [List.take_succ_eq_append_getElem h]
 unfold nkL
 rw [List.filter_append, List.map_append]
 split
 ·rename_i h2; simp [h2]
 ·rename_i h2; simp [h2]
def hitB (S K : List (List UInt8)) : Bool := (List.range K.length).any fun i => inL S (K.getD i []) || inL (K.take i) (K.getD i [])
theorem hit_ex {S K : List (List UInt8)} : hitB S K = true ↔ ∃ i, ∃ (hi : i < K.length), K[i] ∈ S \/ K[i] ∈ K.take i := by
 unfold hitB
 simp only [List.any_eq_true, List.mem_range, Bool.or_eq_true, inL_mem]
 constructor
 ·rintro ⟨i, hi, h⟩
  rw [getDM _ _ hi] at h
  exact ⟨i, hi, h⟩
 ·rintro ⟨i, hi, h⟩
  refine ⟨i, hi, ?_⟩
  rw [getDM _ _ hi]
  exact h
theorem hit_pos {S K : List (List UInt8)} (i : Nat) (hi : i < K.length) (h : K[i] ∈ S \/ K[i] ∈ K.take i) : hitB S K = true := hit_ex.2 ⟨i, hi, h⟩
theorem hit_neg {S K : List (List UInt8)} (h : ∀ i (hi : i < K.length), K[i] ∉ S /\ K[i] ∉ K.take i) : hitB S K = false := by
 rw [Bool.eq_false_iff]
 intro h2
 obtain ⟨i, hi, h2 | h2⟩ := hit_ex.1 h2
 ·exact (h i hi).1 h2
 ·exact (h i hi).2 h2
theorem mdOk_at {r : Int} {vs : List (List UInt8)} (h : mdOk r vs = true) : ∀ v ∈ vs, (ruN r v).2 = true := by
 unfold mdOk at h
 exact fun v hv => List.all_eq_true.1 h v hv
theorem mdTw_iff {r : Int} {vs : List (List UInt8)} (h : mdOk r vs = true) : mdTw r vs = true ↔ ∃ i, ∃ (hi : i < (vs.map (kyN r)).length), (vs.map (kyN r))[i] ∈ (vs.map (kyN r)).take i := by
 rw [mdTw_ex]
 constructor
 ·rintro ⟨i, k, hi, hk, hki, hs⟩
  obtain ⟨_, _, e⟩ := same_iff.1 hs
  refine ⟨i, by simpa using hi, ?_⟩
  rw [List.mem_take_iff_getElem]
  refine ⟨k, by simp; omega, ?_⟩
  simp only [List.getElem_map]
  exact e
 ·rintro ⟨i, hi, hm⟩
  rw [List.mem_take_iff_getElem] at hm
  obtain ⟨k, hk, e⟩ := hm
  simp only [List.getElem_map] at e
  have hi' : i < vs.length := by simpa using hi
  have hk1 : k < vs.length := by simp at hk; omega
  refine ⟨i, k, hi', hk1, by simp at hk; omega, same_iff.2 ⟨mdOk_at h _ (List.getElem_mem _), mdOk_at h _ (List.getElem_mem _), e⟩⟩
theorem any_iff {r : Int} {vs G : List (List UInt8)} (h : mdOk r vs = true) : (vs.any fun v => G.any (sameQ r v)) = true ↔ ∃ i, ∃ (hi : i < (vs.map (kyN r)).length), (vs.map (kyN r))[i] ∈ nkL r G := by
 rw [List.any_eq_true]
 constructor
 ·rintro ⟨v, hv, h2⟩
  obtain ⟨x, hx, hs⟩ := List.any_eq_true.1 h2
  obtain ⟨e1, _, e⟩ := same_iff.1 hs
  obtain ⟨i, hi, rfl⟩ := List.getElem_of_mem hv
  exact ⟨i, by simpa using hi, by rw [List.getElem_map]; exact nk_mem.2 ⟨x, hx, e1, e⟩⟩
 ·rintro ⟨i, hi, hm⟩
  rw [List.getElem_map] at hm
  obtain ⟨x, hx, h1, e⟩ := nk_mem.1 hm
  have hi' : i < vs.length := by simpa using hi
  exact ⟨vs[i], List.getElem_mem _, List.any_eq_true.2 ⟨x, hx, same_iff.2 ⟨h1, mdOk_at h _ (List.getElem_mem _), e⟩⟩⟩
theorem hit_or (S K : List (List UInt8)) : hitB S K = true ↔ (∃ i, ∃ (hi : i < K.length), K[i] ∈ S) \/ ∃ i, ∃ (hi : i < K.length), K[i] ∈ K.take i := by
 rw [hit_ex]
 constructor
 ·rintro ⟨i, hi, h | h⟩
  ·exact .inl ⟨i, hi, h⟩
  ·exact .inr ⟨i, hi, h⟩
 ·rintro (⟨i, hi, h⟩ | ⟨i, hi, h⟩)
  ·exact ⟨i, hi, .inl h⟩
  ·exact ⟨i, hi, .inr h⟩
theorem mdAdd_is {r : Int} (L : List Atr) (n : List UInt8) {vs : List (List UInt8)} (h : mdOk r vs = true) : mdAdd r L n vs = if vs = [] then ([], 19) else if hitB (nkL r (geL L n)) (vs.map (kyN r)) = true then ([], 20) else (clA (L ++ [(n, vs)]), 0) := by
 unfold mdAdd
 by_cases h0 : vs = []
 ·rw [if_pos h0, if_pos h0]
 ·rw [if_neg h0, if_neg h0]
  by_cases h1 : mdTw r vs = true
  ·rw [if_pos h1, if_pos ((hit_or _ _).2 (.inr ((mdTw_iff h).1 h1)))]
  ·rw [if_neg h1]
   by_cases h2 : (vs.any fun v => (geL L n).any (sameQ r v)) = true
   ·rw [if_pos h2, if_pos ((hit_or _ _).2 (.inl ((any_iff h).1 h2)))]
   ·rw [if_neg h2, if_neg]
    intro h3
    rcases (hit_or _ _).1 h3 with h3 | h3
    ·exact h2 ((any_iff h).2 h3)
    ·exact h1 ((mdTw_iff h).2 h3)
theorem mdRep_is {r : Int} (L : List Atr) (n : List UInt8) {vs : List (List UInt8)} (h : mdOk r vs = true) (h0 : vs ≠ []) : mdRep r L n vs = mdAdd r (woL L n) n vs := by
 rw [mdAdd_is _ _ h, if_neg h0, ge_without]
 unfold mdRep
 by_cases h1 : mdTw r vs = true
 ·rw [if_pos h1, if_pos ((hit_or _ _).2 (.inr ((mdTw_iff h).1 h1)))]
 ·rw [if_neg h1, if_neg]
  intro h3
  rcases (hit_or _ _).1 h3 with ⟨i, hi, h3⟩ | h3
  ·simp [nkL] at h3
  ·exact h1 ((mdTw_iff h).2 h3)
theorem mdRep_nil {r : Int} (L : List Atr) (n : List UInt8) : mdRep r L n [] = (woL L n, 0) := by
 unfold mdRep
 rw [if_neg (by simp [mdTw])]
 congr 1
 have : clA (woL L n ++ [(n, [])]) = clA (woL L n) := by
  refine cl_uniq (A := woL L n) ?_ (cl_is _)
  have hi := cl_is (woL L n ++ [(n, [])])
  refine ⟨hi.1, fun p => ?_⟩
  have := hi.2 p
  rw [va_app, va_one, show (if lowL n = p.1 then ([] : List (List UInt8)) else []) = [] by split <;> rfl, List.append_nil] at this
  exact this
 rw [this]
 exact cl_filterM L _
def remL (r : Int) : List (List UInt8) -> List (List UInt8) -> List (List UInt8) × List (List UInt8)
 | c, [] => (c, [])
 | c, x :: l => if (ruN r x).2 = true /\ kyN r x ∈ c then remL r (c.erase (kyN r x)) l else ((remL r c l).1, x :: (remL r c l).2)
def remS (r : Int) (st : List (List UInt8) × List (List UInt8)) (x : List UInt8) : List (List UInt8) × List (List UInt8) :=
 if (ruN r x).2 = true /\ kyN r x ∈ st.1 then (st.1.erase (kyN r x), st.2) else (st.1, st.2 ++ [x])
theorem rem_fold (r : Int) : ∀ (l c acc : List (List UInt8)), l.foldl (remS r) (c, acc) = ((remL r c l).1, acc ++ (remL r c l).2) := by
 intro l
 induction l with
 | nil => intro c acc; simp [remL]
 | cons x l ih =>
  intro c acc
  rw [List.foldl_cons]
  by_cases h : (ruN r x).2 = true /\ kyN r x ∈ c
  ·have e1 : remS r (c, acc) x = (c.erase (kyN r x), acc) := by unfold remS; rw [if_pos h]
   have e2 : remL r c (x :: l) = remL r (c.erase (kyN r x)) l := by conv => lhs; unfold remL
                                                                    rw [if_pos h]
   rw [e1, e2]; exact ih _ _
  ·have e1 : remS r (c, acc) x = (c, acc ++ [x]) := by unfold remS; rw [if_neg h]
   have e2 : remL r c (x :: l) = ((remL r c l).1, x :: (remL r c l).2) := by conv => lhs; unfold remL
                                                                             rw [if_neg h]
   rw [e1, e2, ih]; simp
theorem rem_nil (r : Int) (l : List (List UInt8)) : remL r [] l = ([], l) := by
 induction l with
 | nil => rfl
 | cons x l ih => unfold remL; rw [if_neg (by simp), ih]
theorem rem_out {r : Int} {v : List UInt8} (hv : (ruN r v).2 = true) : ∀ {l l' : List (List UInt8)} (c : List (List UInt8)), outQ r v l = some l' -> remL r (kyN r v :: c) l = remL r c l' := by
 intro l
 induction l with
 | nil => intro l' c h; cases h
 | cons x l ih =>
  intro l' c h
  unfold outQ at h
  by_cases hs : sameQ r v x = true
  ·rw [if_pos hs] at h
   injection h with h; subst h
   obtain ⟨h1, _, e⟩ := same_iff.1 hs
   have e : kyN r x = kyN r v := e
   conv => lhs; unfold remL
   rw [if_pos ⟨h1, by rw [e]; simp⟩, e, List.erase_cons_head]
  ·rw [if_neg hs] at h
   cases hq : outQ r v l with
   | none => rw [hq] at h; cases h
   | some q =>
    rw [hq] at h
    simp only [Option.map_some] at h
    injection h with h; subst h
    have hne : (ruN r x).2 = true -> kyN r v ≠ kyN r x := fun h1 e => hs (same_iff.2 ⟨h1, hv, e.symm⟩)
    conv => lhs; unfold remL
    conv => rhs; unfold remL
    by_cases hc : (ruN r x).2 = true /\ kyN r x ∈ c
    ·rw [if_pos hc, if_pos ⟨hc.1, List.mem_cons_of_mem _ hc.2⟩, List.erase_cons_tail (by simpa using hne hc.1)]
     exact ih _ hq
    ·have hc2 : ¬ ((ruN r x).2 = true /\ kyN r x ∈ kyN r v :: c) := by
      rintro ⟨h1, h2⟩
      rcases List.mem_cons.1 h2 with h2 | h2
      ·exact hne h1 h2.symm
      ·exact hc ⟨h1, h2⟩
     rw [if_neg hc, if_neg hc2, ih c hq]
theorem rem_keeps {r : Int} {v : List UInt8} (hv : (ruN r v).2 = true) : ∀ {l : List (List UInt8)} (c : List (List UInt8)), outQ r v l = none -> kyN r v ∈ c -> kyN r v ∈ (remL r c l).1 := by
 intro l
 induction l with
 | nil => intro c _ h; exact h
 | cons x l ih =>
  intro c h hm
  unfold outQ at h
  by_cases hs : sameQ r v x = true
  ·rw [if_pos hs] at h; cases h
  ·rw [if_neg hs] at h
   have h2 : outQ r v l = none := by
    cases hq : outQ r v l with
    | none => rfl
    | some q => rw [hq] at h; cases h
   unfold remL
   split
   ·rename_i hc
    refine ih _ h2 ?_
    have hne : kyN r v ≠ kyN r x := fun e => hs (same_iff.2 ⟨hc.1, hv, e.symm⟩)
    exact (List.mem_erase_of_ne hne).2 hm
   ·exact ih _ h2 hm
theorem drop_rem {r : Int} : ∀ {vs : List (List UInt8)} (l : List (List UInt8)), mdOk r vs = true -> dropQ r l vs = if (remL r (vs.map (kyN r)) l).1 = [] then some (remL r (vs.map (kyN r)) l).2 else none := by
 intro vs
 induction vs with
 | nil => intro l _; rw [List.map_nil, rem_nil, if_pos rfl]; rfl
 | cons v vs ih =>
  intro l h
  have hv := mdOk_at h v (by simp)
  have hvs : mdOk r vs = true := by
   unfold mdOk at h ⊢
   rw [List.all_cons, Bool.and_eq_true] at h
   exact h.2
  unfold dropQ
  rw [List.map_cons]
  cases hq : outQ r v l with
  | none =>
   rw [if_neg]
   intro e
   have := rem_keeps hv (kyN r v :: vs.map (kyN r)) hq (by simp)
   rw [e] at this; simp at this
  | some k =>
   rw [rem_out hv _ hq]
   exact ih k hvs
theorem mdDel_is {r : Int} (L : List Atr) (n : List UInt8) {vs : List (List UInt8)} (h : mdOk r vs = true) (h0 : vs ≠ []) :
  mdDel r L n vs = if (remL r (vs.map (kyN r)) (geL L n)).1 = [] then (clA (woL L n ++ [(n, (remL r (vs.map (kyN r)) (geL L n)).2)]), 0) else ([], 16) := by
 unfold mdDel
 rw [if_neg h0, drop_rem _ h]
 by_cases h1 : (remL r (vs.map (kyN r)) (geL L n)).1 = []
 ·simp only [if_pos h1]
 ·simp only [if_neg h1]
theorem mdDel_nil {r : Int} (L : List Atr) (n : List UInt8) : mdDel r L n [] = if geL L n = [] then ([], 16) else mdRep r L n [] := by
 rw [mdRep_nil]; unfold mdDel; rw [if_pos rfl]
end Go.Proofs.YtpkbgkoocijegaaGreatDoor
namespace Go.Proofs.YtpkbgkoocijegaaGreatDoor
open Go Go.RowKit Go.Proofs.BerK Go.Proofs.MemK Go.Proofs.UtfK Go.Maps Go.WideMaps
theorem all_bad {α : Type} (f : α -> Bool) (r : List α) (j : Nat) (h : j < r.length) (hb : f r[j] = false) : r.all f = false := by
 rw [List.all_eq_false]
 exact ⟨r[j], List.getElem_mem h, by simp [hb]⟩
theorem fewG_e {m k : Nat} {A : List Atr} (h : FewG m k A) (h1 : m <= 1000) (h2 : k <= 1000) : FewE A := fewG_mono h h1 h2
theorem fewG_snoc {m k : Nat} {A : List Atr} (h : FewG m k A) {t : List UInt8} {V : List (List UInt8)} (ht : t.length <= 100000) (hV : V.length <= k) (hs : ∀ s ∈ V, s.length <= 100000) : FewG (m + 1) k (A ++ [(t, V)]) :=
 ⟨by rw [List.length_append]; have := h.1; simp; omega, fun a ha => by
  rcases List.mem_append.1 ha with h1 | h1
  ·exact h.2 a h1
  ·rw [List.mem_singleton] at h1
   subst h1
   exact ⟨ht, hV, hs⟩⟩
theorem eaAt_blk {w : World} {g : Nat} {A : List Atr} {L : List (List UInt8 × Value)} {e : TypeId} (c : Nat) (h : w.heap[g]? = some (.cells (atcs L).toArray e (0, 0))) (hl : L.length = A.length) (hx : ∀ i (h1 : i < A.length) (h2 : i < L.length), L[i].1 = A[i].1 /\ TxR w L[i].2 A[i].2) (hk : ∀ q ∈ L, SlOk q.2) :
  EaAt w (.slice (some ⟨g, 0, none⟩) A.length c) A := by
 refine ⟨.inr ⟨_, _, _, rfl⟩, _, _, rfl, fun i hi => ?_⟩
 obtain ⟨h1, h2⟩ := atcs_at L i (by omega)
 obtain ⟨x1, x2⟩ := hx i hi (by omega)
 refine ⟨g, 0, L[i].2, rfl, obj_lt h, ?_, ?_, x2, hk _ (List.getElem_mem _)⟩
 ·rw [Nat.zero_add, <- x1]; exact obj_cell h _ _ (by simpa using h1)
 ·rw [Nat.zero_add]; exact obj_cell h _ _ (by simpa using h2)
theorem eaAt_per {w : World} {g b : Nat} (h : w.heap[g]? = some (.cells (atcs (perRow b)).toArray 45 (0, 0))) (hx : ∀ i (h1 : i < perA.length) (h2 : i < (perRow b).length), (perRow b)[i].1 = perA[i].1 /\ TxR w (perRow b)[i].2 perA[i].2) : EaAt w (.slice (some ⟨g, 0, none⟩) 3 3) perA :=
 eaAt_blk (A := perA) 3 h rfl hx (fun q hq => by
  unfold perRow at hq
  simp only [List.mem_cons, List.not_mem_nil, or_false] at hq
  rcases hq with rfl | rfl | rfl <;> exact .inr ⟨_, _, _, rfl⟩)
theorem foldL_length (l : List UInt8) : (foldL l).length <= l.length := by
 unfold foldL
 rw [lowL_length]; exact blL_length l
def canD (z : List UInt8) : Prop := z.length <= 32 /\ z.all digB = true /\ ((∃ c, z = [c]) \/ ∃ c d r, z = c :: d :: r /\ c ≠ 48)
theorem strip_can (l : List UInt8) (h0 : 1 <= l.length) (h1 : l.length <= 32) (h2 : l.all digB = true) : canD (strip l) := by
 induction l with
 | nil => simp at h0
 | cons c r ih =>
  cases r with
  | nil => exact ⟨h1, h2, .inl ⟨c, rfl⟩⟩
  | cons d r =>
   rw [strip]
   split
   ·exact ih (by simp) (by simp at h1 ⊢; omega) (by simp at h2 ⊢; exact h2.2)
   ·rename_i hc
    exact ⟨h1, h2, .inr ⟨c, d, r, rfl, hc⟩⟩
theorem ru_len (r : Int) (s : List UInt8) : (ruN r s).1.length <= 4096 := by
 unfold ruN
 split
 ·simp
 ·rename_i h
  split
  ·have := foldL_length s; simp; omega
  ·split
   ·have := blL_length s; simp; omega
   ·split
    ·unfold intL
     split
     ·simp
     ·split
      ·simp
      ·rename_i h1 h2
       have hok : intOk s = true := by simpa using h1
       unfold intOk at hok
       simp only [Bool.and_eq_true, decide_eq_true_eq] at hok
       have := (strip_can (digs s) hok.1.1 hok.1.2 hok.2).1
       simp only [List.length_append]
       split <;> simp <;> omega
    ·split
     ·simp; omega
     ·split
      ·simp only [noD]
       split
       ·simp
       ·unfold puD
        split
        ·simp
        ·split
         ·simp
         ·simp; omega
      ·simp
theorem txR_chg {S : Nat -> Prop} {w w' : World} {v : Value} {l : List (List UInt8)} (h : TxR w v l) (hc : Chg S w w') (hs : ∀ g o n c, v = .slice (some ⟨g, o, none⟩) n c -> ¬ S g) : TxR w' v l := by
 obtain ⟨a, c, rfl, h⟩ := h
 refine ⟨a, c, rfl, fun i hi => ?_⟩
 obtain ⟨g, o, rfl, h2, h3⟩ := h i hi
 exact ⟨g, o, rfl, Nat.lt_of_lt_of_le h2 hc.size, (World.cell?_of_block (w := w) (a := ⟨g, o + i, none⟩) (hc.block g h2 (hs g o _ _ rfl))).trans h3⟩
end Go.Proofs.YtpkbgkoocijegaaGreatDoor
namespace Go.Proofs.YtpkbgkoocijegaaGreatDoor
open Go Go.Shelf
def Tryz.growAva_ren : Go.Shelf.Ren := ⟨fun | 4 => 102 | n => n, fun | 22 => 95 | 25 => 97 | 3 => 3 | 4 => 4 | 9 => 9 | 20 => 20 | 0 => 0 | n => n, fun | n => n⟩
theorem Tryz.growAva : Go.Proofs.Lays8.n4 Tryz.prog Tryz.growAva_ren := {
 mixed := by kernel_rfl
 f4 := ⟨Tryz.f102.name, by decide, Tryz.func102.trans (congrArg some (by kernel_rfl))⟩
 t0 := Tryz.underlying0
 a0 := Tryz.isAgg0
 z0 := Tryz.sizeOf0
 v0 := Tryz.zeroValue0
 t3 := Tryz.underlying3
 a3 := Tryz.isAgg3
 z3 := Tryz.sizeOf3
 v3 := Tryz.zeroValue3
 t4 := Tryz.underlying4
 a4 := Tryz.isAgg4
 z4 := Tryz.sizeOf4
 v4 := Tryz.zeroValue4
 t9 := Tryz.underlying9
 a9 := Tryz.isAgg9
 z9 := Tryz.sizeOf9
 v9 := Tryz.zeroValue9
 t20 := Tryz.underlying20
 a20 := Tryz.isAgg20
 z20 := Tryz.sizeOf20
 v20 := Tryz.zeroValue20
 t22 := Tryz.underlying95
 a22 := Tryz.isAgg95
 z22 := Tryz.sizeOf95
 v22 := Tryz.zeroValue95 }
end Go.Proofs.YtpkbgkoocijegaaGreatDoor
