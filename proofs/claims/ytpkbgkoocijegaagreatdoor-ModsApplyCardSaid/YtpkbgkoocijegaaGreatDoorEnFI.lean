/- Plain facts on the code's clean: what is gathered, name by name, and put in order. 'append(x, y...)' of a row that is read, inside a statement that draws its order; the lists that the code's clean gathers, in memory. What the code's clean has gathered, in memory, step by step. -/
import Derived.Test.YtpkbgkoocijegaaGreatDoorEnMP
import Derived.Test.YtpkbgkoocijegaaGreatDoorEnAB
import Derived.Test.YtpkbgkoocijegaaGreatDoorSnAL
import Derived.Test.YtpkbgkoocijegaaGreatDoorGenB
import Derived.Test.YtpkbgkoocijegaaGreatDoorEnQT
set_option linter.unusedVariables false
set_option linter.unusedSimpArgs false
set_option maxHeartbeats 25600000
set_option maxRecDepth 100000
namespace Go.Proofs.YtpkbgkoocijegaaGreatDoor
open Go Go.Sort
def nmN (A : List Atr) : List (List UInt8) := onL ((A.filter fun a => !a.2.isEmpty).map fun a => lowL a.1)
def gaL (A : List Atr) : List Atr := (nmN A).map fun n => (n, vaL A n)
theorem nm_nodup (A : List Atr) : (nmN A).Nodup := on_nodup _
theorem nm_mem {A : List Atr} {n : List UInt8} : n ∈ nmN A ↔ vaL A n ≠ [] := by
 have := @cln_mem A n
 unfold clNs at this
 rw [ris_mem] at this
 exact this
theorem ga_len (A : List Atr) : (gaL A).length = (nmN A).length := by simp [gaL]
theorem onL_len (l : List (List UInt8)) : (onL l).length <= l.length := by
 have := on_len l l.length
 rw [List.take_length] at this
 exact this
theorem nm_len (A : List Atr) : (nmN A).length <= A.length := by
 have h := onL_len ((A.filter fun a => !a.2.isEmpty).map fun a => lowL a.1)
 have h2 : (A.filter fun a => !a.2.isEmpty).length <= A.length := List.length_filter_le _ _
 rw [List.length_map] at h
 unfold nmN
 omega
theorem nmN_nil : nmN [] = [] := rfl
theorem ga_nil : gaL [] = [] := rfl
theorem nm_skip {A : List Atr} (i : Nat) (hi : i < A.length) (he : A[i].2 = []) : nmN (A.take (i + 1)) = nmN (A.take i) := by
 unfold nmN
 rw [List.take_succ_eq_append_getElem hi, List.filter_append]
 simp [he]
theorem ga_skip {A : List Atr} (i : Nat) (hi : i < A.length) (he : A[i].2 = []) : gaL (A.take (i + 1)) = gaL (A.take i) := by
 unfold gaL
 rw [nm_skip i hi he]
 refine List.map_congr_left fun n _ => ?_
 rw [va_step i hi, he, List.append_nil, ite_self]
theorem nm_more {A : List Atr} (i : Nat) (hi : i < A.length) (he : A[i].2 ≠ []) : nmN (A.take (i + 1)) = onS1 (nmN (A.take i)) (lowL A[i].1) := by
 unfold nmN
 rw [List.take_succ_eq_append_getElem hi, List.filter_append, List.map_append]
 have : ([A[i]].filter fun a => !a.2.isEmpty).map (fun a => lowL a.1) = [lowL A[i].1] := by
  have : A[i].2.isEmpty = false := by simpa using he
  simp [this]
 rw [this, on_snoc]
theorem nm_hit {A : List Atr} (i : Nat) (hi : i < A.length) (he : A[i].2 ≠ []) {j : Nat} (hj : ixL (nmN (A.take i)) (lowL A[i].1) = some j) : nmN (A.take (i + 1)) = nmN (A.take i) := by
 rw [nm_more i hi he]
 unfold onS1
 rw [if_pos (ix_in hj)]
theorem nm_new {A : List Atr} (i : Nat) (hi : i < A.length) (he : A[i].2 ≠ []) (hj : ixL (nmN (A.take i)) (lowL A[i].1) = none) : nmN (A.take (i + 1)) = nmN (A.take i) ++ [lowL A[i].1] := by
 rw [nm_more i hi he]
 unfold onS1
 rw [if_neg (by rw [ix_out hj]; simp)]
theorem ga_hit {A : List Atr} (i : Nat) (hi : i < A.length) (he : A[i].2 ≠ []) {j : Nat} (hj : ixL (nmN (A.take i)) (lowL A[i].1) = some j) :
  ∃ hl : j < (gaL (A.take i)).length, (gaL (A.take i))[j].1 = lowL A[i].1 /\ gaL (A.take (i + 1)) = (gaL (A.take i)).set j (lowL A[i].1, (gaL (A.take i))[j].2 ++ A[i].2) := by
 obtain ⟨hl, e⟩ := ix_some hj
 have hl2 : j < (gaL (A.take i)).length := by rw [ga_len]; exact hl
 refine ⟨hl2, by simp [gaL, e], ?_⟩
 refine List.ext_getElem (by rw [List.length_set, ga_len, ga_len, nm_hit i hi he hj]) fun m h1 h2 => ?_
 rw [List.length_set] at h2
 have hm : m < (nmN (A.take i)).length := by rw [ga_len] at h2; exact h2
 have em : (gaL (A.take (i + 1)))[m] = ((nmN (A.take i))[m], vaL (A.take (i + 1)) (nmN (A.take i))[m]) := by
  simp [gaL, nm_hit i hi he hj]
 rw [em, va_step i hi, List.getElem_set]
 by_cases q : j = m
 ·subst q
  rw [if_pos rfl, e, if_pos (by simp)]
  simp [gaL, e]
 ·rw [if_neg q, if_neg]
  ·simp [gaL]
  ·intro h
   have h : lowL A[i].1 = (nmN (A.take i))[m] := by simpa using h
   exact q ((List.getElem_inj (nm_nodup (A.take i))).1 (e.trans h))
theorem ga_new {A : List Atr} (i : Nat) (hi : i < A.length) (he : A[i].2 ≠ []) (hj : ixL (nmN (A.take i)) (lowL A[i].1) = none) :
  gaL (A.take (i + 1)) = gaL (A.take i) ++ [(lowL A[i].1, A[i].2)] := by
 unfold gaL
 rw [nm_new i hi he hj, List.map_append]
 congr 1
 ·refine List.map_congr_left fun n hn => ?_
  rw [va_step i hi, if_neg]
  intro h
  have h : lowL A[i].1 = n := by simpa using h
  rw [<- h] at hn
  exact ix_none hj hn
 ·have hv : vaL (A.take i) (lowL A[i].1) = [] := by
   by_cases e : vaL (A.take i) (lowL A[i].1) = []
   ·exact e
   ·exact absurd (nm_mem.2 e) (ix_none hj)
  rw [List.map_singleton, va_step i hi, hv]
  simp
def gcL (A : List Atr) : List Atr := (gaL A).map fun p => (p.1, onL p.2)
theorem gc_mem {A : List Atr} {p : Atr} : p ∈ gcL A ↔ p.2 = onL (vaL A p.1) /\ p.2 ≠ [] := by
 unfold gcL gaL
 simp only [List.map_map, List.mem_map, Function.comp]
 constructor
 ·rintro ⟨n, hn, rfl⟩
  exact ⟨rfl, fun e => nm_mem.1 hn (on_nil.1 e)⟩
 ·rintro ⟨h1, h2⟩
  exact ⟨p.1, nm_mem.2 (fun e => h2 (by rw [h1, e]; rfl)), by rw [<- h1]⟩
theorem gc_names (A : List Atr) : (gcL A).map (·.1) = nmN A := by
 unfold gcL gaL
 simp [Function.comp_def]
theorem gc_sorted {A M : List Atr} (hp : M.Perm (gcL A)) (hs : M.Pairwise (fun p q => ¬ q.1 < p.1)) : M = clA A := by
 refine cl_of ⟨?_, fun p => by rw [hp.mem_iff]; exact gc_mem⟩
 have hn : (M.map (·.1)).Nodup := ((hp.map (·.1)).nodup_iff).2 (by rw [gc_names]; exact nm_nodup A)
 have hn2 : M.Pairwise (fun p q => p.1 ≠ q.1) := List.pairwise_map.1 hn
 refine (hs.and hn2).imp fun {a b} h => ?_
 rcases Decidable.em (a.1 < b.1) with h5 | h5
 ·exact h5
 ·exact absurd (List.le_antisymm (List.not_lt.1 h.1) (List.not_lt.1 h5)) h.2
def FewG (m k : Nat) (A : List Atr) : Prop := A.length <= m /\ ∀ a ∈ A, a.1.length <= 100000 /\ a.2.length <= k /\ ∀ s ∈ a.2, s.length <= 100000
theorem va_lenk {k : Nat} {A : List Atr} (h : ∀ a ∈ A, a.2.length <= k) (n : List UInt8) : (vaL A n).length <= k * A.length := by
 induction A with
 | nil => simp [vaL]
 | cons a A ih =>
  have h1 := ih (fun b hb => h b (List.mem_cons_of_mem _ hb))
  have h2 := h a (by simp)
  rw [List.length_cons, Nat.mul_add, Nat.mul_one]
  unfold vaL at *
  rw [List.filter_cons]
  split
  ·simp only [List.flatMap_cons, List.length_append]; omega
  ·omega
theorem fewG_mono {m k m' k' : Nat} {A : List Atr} (h : FewG m k A) (h1 : m <= m') (h2 : k <= k') : FewG m' k' A :=
 ⟨Nat.le_trans h.1 h1, fun a ha => ⟨(h.2 a ha).1, Nat.le_trans (h.2 a ha).2.1 h2, (h.2 a ha).2.2⟩⟩
theorem fewG_take {m k : Nat} {A : List Atr} (h : FewG m k A) (i : Nat) : FewG m k (A.take i) :=
 ⟨by rw [List.length_take]; have := h.1; omega, fun a ha => h.2 a (List.mem_of_mem_take ha)⟩
theorem fewG_filter {m k : Nat} {A : List Atr} (h : FewG m k A) (p : Atr -> Bool) : FewG m k (A.filter p) :=
 ⟨Nat.le_trans (List.length_filter_le _ _) h.1, fun a ha => h.2 a (List.mem_filter.1 ha).1⟩
theorem fewG_va {m k : Nat} {A : List Atr} (h : FewG m k A) (n : List UInt8) : (vaL A n).length <= k * m /\ ∀ s ∈ vaL A n, s.length <= 100000 :=
 ⟨Nat.le_trans (va_lenk (fun a ha => (h.2 a ha).2.1) n) (Nat.mul_le_mul_left _ h.1), fun s hs => by
  obtain ⟨a, ha, hsa⟩ := va_mem hs
  exact (h.2 a ha).2.2 s hsa⟩
theorem fewG_nm {m k : Nat} {A : List Atr} (h : FewG m k A) {n : List UInt8} (hn : n ∈ nmN A) : n.length <= 100000 := by
 obtain ⟨a, ha, _, e⟩ := va_ne.1 (nm_mem.1 hn)
 rw [<- e]
 have := (h.2 a ha).1
 simpa [lowL] using this
theorem fewG_ga {m k : Nat} {A : List Atr} (h : FewG m k A) : FewG m (k * m) (gaL A) := by
 refine ⟨by rw [ga_len]; exact Nat.le_trans (nm_len A) h.1, fun p hp => ?_⟩
 unfold gaL at hp
 obtain ⟨n, hn, rfl⟩ := List.mem_map.1 hp
 exact ⟨fewG_nm h hn, fewG_va h n⟩
theorem fewG_cl {m k : Nat} {A : List Atr} (h : FewG m k A) : FewG m (k * m) (clA A) := by
 refine ⟨?_, fun p hp => ?_⟩
 ·have e : (clA A).length = (nmN A).length := by
   unfold clA clNs nmN risL
   rw [List.length_map, List.length_mergeSort]
  rw [e]
  exact Nat.le_trans (nm_len A) h.1
 ·obtain ⟨h1, h2⟩ := (cl_is A).2 p |>.1 hp
  have hv : vaL A p.1 ≠ [] := fun e => h2 (by rw [h1, e]; rfl)
  obtain ⟨h3, h4⟩ := fewG_va h p.1
  refine ⟨fewG_nm h (nm_mem.2 hv), by rw [h1]; exact Nat.le_trans (onL_len _) h3, fun s hs => ?_⟩
  rw [h1, on_mem] at hs
  exact h4 s hs
end Go.Proofs.YtpkbgkoocijegaaGreatDoor
namespace Go.Proofs.MemK
open Go Go.RowKit Go.Proofs.BerK
theorem step_appendr {P : Program} {ops : Array Oper} {o : Oper} {a : Act} {w : World} {K : Act -> World -> Prop} {Q : Exit -> Act -> World -> Prop} {E : Prop}
  (hgd : o.guard = none) (s x : Operand) (t e : TypeId) (ho : o.op = Op.call { callee := Callee.builtin Builtin.append, args := #[s, x], argTypes := #[t, t] })
  (base size bytes : Nat) (z : Value) (h5 : (P.info? e).map (fun i => (i.zero, i.size, i.bytes)) = some (some z, size, bytes)) (ht : P.underlying t = some (.slice e)) (hzs : z.cells.size = size) (hsz : 0 < size)
  (v : Value) (n : Nat) (xs : List Value) (hs : a.eval s = v) (hown : w.ownsRow base e size v n xs)
  (vx : Value) (m : Nat) (us : List Value) (hx : a.eval x = vx) (hrd : RdRow w size vx m us) (hm : 0 < m) (hu : ∀ u ∈ us, u.oneCell' = true)
  (h63 : n + m <= maxLen) (hbytes : (n + m) * bytes <= 140737488355328) (hbase : base <= w.heap.size)
  (h : ∀ v' w', w'.ownsRow base e size v' (n + m) (xs ++ us) -> Chg (fun k => some k = v.ownBlock) w w' -> (v'.ownBlock = v.ownBlock \/ ∃ k, v'.ownBlock = some k /\ w.heap.size <= k) -> K (a.put o.dst v') w') :
  if Region.wanted o (yielded ops a.tmps) = true then Oper.wp P o a w K Q else E := by
 have hw : Region.wanted o (yielded ops a.tmps) = true := by simp [Region.wanted, hgd]
 rw [if_pos hw]
 obtain ⟨i, hi, hz0, hz1, hz2⟩ := info_parts h5
 rcases hrd.2 with ⟨_, h0⟩ | ⟨ad, c, rfl, hc⟩
 ·omega
 obtain ⟨v', w', hr, h2, h3, _, h4⟩ := run_append_own_at (P := P) w base t o.type e i z size bytes ht hi hz0 hz1 hz2 hzs hsz v n xs hown ad m c us hrd.1 hc hu h63 hbytes hbase
 unfold Oper.wp execOp
 simp only [ho, resolve, invoke, builtin, Sem.run_bind, Sem.run_pure, Result.andThen_ok, List.map_toArray, List.map_cons, List.map_nil, hs, hx, hr]
 refine h v' w' h2 (Chg.ofGrown h3) ?_
 rcases h4 with h4 | h4
 ·exact .inl h4
 ·exact .inr ⟨_, h4, Nat.le_refl _⟩
end Go.Proofs.MemK
namespace Go.Proofs.YtpkbgkoocijegaaGreatDoor
open Go Go.RowKit Go.Proofs.BerK Go.Proofs.MemK Go.Proofs.UtfK
def GaAt (w : World) (B : Nat) (Lq : List (List UInt8 × Value)) (L : List Atr) : Prop :=
 Lq.length = L.length /\ (∀ i (h1 : i < Lq.length) (h2 : i < L.length), Lq[i].1 = L[i].1 /\ w.ownsRow B 9 1 Lq[i].2 L[i].2.length (sc L[i].2)) /\ ∀ i j (h1 : i < Lq.length) (h2 : j < Lq.length), i ≠ j -> Apart Lq[i].2 Lq[j].2
theorem gaAt_nil (w : World) (B : Nat) : GaAt w B [] [] := ⟨rfl, fun i h => by simp at h, fun i j h => by simp at h⟩
theorem gaAt_chg {S : Nat -> Prop} {w w' : World} {B : Nat} {Lq : List (List UInt8 × Value)} {L : List Atr} (h : GaAt w B Lq L) (hc : Chg S w w') (hs : ∀ i (hi : i < Lq.length) k, Lq[i].2.ownBlock = some k -> ¬ S k) : GaAt w' B Lq L :=
 ⟨h.1, fun i h1 h2 => ⟨(h.2.1 i h1 h2).1, ownsRow_chg (h.2.1 i h1 h2).2 hc (hs i h1)⟩, h.2.2⟩
theorem gaAt_below {w w' : World} {B : Nat} {Lq : List (List UInt8 × Value)} {L : List Atr} (h : GaAt w B Lq L) (hb : Below w.heap.size w w') : GaAt w' B Lq L :=
 gaAt_chg h (Chg.ofBelow (S := fun _ => False) hb) (fun _ _ _ _ h => h)
theorem gaAt_ok {w : World} {B : Nat} {Lq : List (List UInt8 × Value)} {L : List Atr} (h : GaAt w B Lq L) : AtOk w Lq L :=
 ⟨h.1, fun i h1 h2 => ⟨(h.2.1 i h1 h2).1, B, (h.2.1 i h1 h2).2⟩⟩
theorem gaAt_snoc {w : World} {B : Nat} {Lq : List (List UInt8 × Value)} {L : List Atr} (h : GaAt w B Lq L) (n : List UInt8) : GaAt w B (Lq ++ [(n, .slice none 0 0)]) (L ++ [(n, [])]) := by
 have hl := h.1
 refine ⟨by simp [hl], fun i h1 h2 => ?_, fun i j h1 h2 hij => ?_⟩
 ·by_cases hi : i < L.length
  ·rw [List.getElem_append_left (by omega), List.getElem_append_left hi]
   exact h.2.1 i (by omega) hi
  ·rw [List.length_append] at h1 h2
   simp only [List.length_cons, List.length_nil] at h1 h2
   rw [List.getElem_append_right (by omega), List.getElem_append_right (by omega)]
   have e1 : i - Lq.length = 0 := by omega
   have e2 : i - L.length = 0 := by omega
   simp only [e1, e2, List.getElem_cons_zero]
   exact ⟨trivial, World.ownsRow_nil _ _ _ _⟩
 ·rw [List.length_append] at h1 h2
  simp only [List.length_cons, List.length_nil] at h1 h2
  by_cases hi : i < Lq.length
  ·rw [List.getElem_append_left hi]
   by_cases hj : j < Lq.length
   ·rw [List.getElem_append_left hj]
    exact h.2.2 i j hi hj hij
   ·rw [List.getElem_append_right (by omega)]
    have e2 : j - Lq.length = 0 := by omega
    simp only [e2, List.getElem_cons_zero]
    exact apart_nil _
  ·rw [List.getElem_append_right (by omega)]
   have e1 : i - Lq.length = 0 := by omega
   simp only [e1, List.getElem_cons_zero]
   exact apart_nil' _
theorem gaAt_set {w w' : World} {B : Nat} {Lq : List (List UInt8 × Value)} {L : List Atr} (h : GaAt w B Lq L) (j : Nat) (hj : j < Lq.length) (t : List UInt8) (ht : Lq[j].1 = t) (V : List (List UInt8)) (v : Value)
  (hv : w'.ownsRow B 9 1 v V.length (sc V)) (hc : Chg (fun k => some k = Lq[j].2.ownBlock) w w') (ho : v.ownBlock = Lq[j].2.ownBlock \/ ∃ k, v.ownBlock = some k /\ w.heap.size <= k) : GaAt w' B (Lq.set j (t, v)) (L.set j (t, V)) := by
 have hl := h.1
 have hn : ∀ i (hi : i < Lq.length), i ≠ j -> Apart Lq[i].2 v := fun i hi hij => apart_new (h.2.2 i j hi hj hij) (h.2.1 i hi (by omega)).2 ho
 refine ⟨by simp [hl], fun i h1 h2 => ?_, fun i k h1 h2 hik => ?_⟩
 ·rw [List.length_set] at h1 h2
  rw [List.getElem_set, List.getElem_set]
  by_cases q : j = i
  ·rw [if_pos q, if_pos q]
   exact ⟨rfl, hv⟩
  ·rw [if_neg q, if_neg q]
   refine ⟨(h.2.1 i h1 h2).1, ownsRow_chg (h.2.1 i h1 h2).2 hc fun b hb hk => ?_⟩
   exact h.2.2 i j h1 hj (fun e => q e.symm) b hb hk.symm
 ·rw [List.length_set] at h1 h2
  rw [List.getElem_set, List.getElem_set]
  by_cases q : j = i
  ·rw [if_pos q, if_neg (by omega)]
   exact (hn k h2 (by omega)).symm
  ·rw [if_neg q]
   by_cases q2 : j = k
   ·rw [if_pos q2]
    exact hn i h1 (by omega)
   ·rw [if_neg q2]
    exact h.2.2 i k h1 h2 hik
theorem atcs_set1 (Lq : List (List UInt8 × Value)) (j : Nat) (hj : j < Lq.length) (v : Value) : (atcs Lq).set (j * 2 + 1) v = atcs (Lq.set j (Lq[j].1, v)) := by
 induction Lq generalizing j with
 | nil => simp at hj
 | cons c Lq ih =>
  have e : ∀ c (L : List (List UInt8 × Value)), atcs (c :: L) = .string ⟨c.1.toArray⟩ :: c.2 :: atcs L := fun _ _ => rfl
  cases j with
  | zero => simp only [List.set_cons_zero, List.getElem_cons_zero, e]; rfl
  | succ j =>
   have hj2 : j < Lq.length := by simpa using hj
   rw [List.set_cons_succ, e, e, show (j + 1) * 2 + 1 = j * 2 + 1 + 1 + 1 by omega, List.set_cons_succ, List.set_cons_succ, ih j hj2]
   rfl
theorem row_apart {w : World} {B B' s s' n n' : Nat} {e e' : TypeId} {v v' : Value} {xs xs' : List Value} (h : w.ownsRow B e s v n xs) (h' : w.ownsRow B' e' s' v' n' xs') (hne : e ≠ e') (k : Nat) (hk : v.ownBlock = some k) : v'.ownBlock ≠ some k := by
 intro hb
 rcases h'.2 with ⟨rfl, _⟩ | ⟨g', cap, cur, rfl, _, hg', _⟩
 ·cases hb
 ·rcases h.2 with ⟨rfl, _⟩ | ⟨g, cap, cur, rfl, _, hg, _⟩
  ·cases hk
  ·have e1 : g = k := by injection hk
   have e2 : g' = k := by injection hb
   subst e1
   subst e2
   rw [hg] at hg'
   injection hg' with hg'
   injection hg' with _ hg'
   exact hne hg'
theorem own_block {w : World} {B s n : Nat} {e : TypeId} {v : Value} {xs : List Value} (h : w.ownsRow B e s v n xs) (hn : 0 < n) : ∃ g c, v = .slice (some ⟨g, 0, none⟩) n c /\ B <= g /\ g < w.heap.size := by
 rcases h.2 with ⟨_, h0⟩ | ⟨g, cap, cur, rfl, hB, hg, _⟩
 ·omega
 ·exact ⟨g, cap, rfl, hB, (Array.getElem?_eq_some_iff.1 hg).1⟩
theorem own_stored {w : World} {B s g m n c : Nat} {e : TypeId} {xs : List Value} (h : w.ownsRow B e s (.slice (some ⟨g, 0, none⟩) m c) n xs) (j : Nat) (u : Value) : (w.setCell ⟨g, j, none⟩ u).ownsRow B e s (.slice (some ⟨g, 0, none⟩) m c) n (xs.set j u) := by
 obtain ⟨a, cc, e⟩ := ownsRow_slice h
 injection e with e1 e2 e3
 subst e2
 exact (h.stored j u).1
def GsAt (w0 : World) (B : Nat) (N : List (List UInt8)) (L : List Atr) (ov : Value) (Lq : List (List UInt8 × Value)) (w : World) : Prop :=
 NmAt w (.map (some B)) N /\ w.ownsRow (B + 1) 45 2 ov L.length (atcs Lq) /\ GaAt w (B + 1) Lq L /\ Below B w0 w /\ B + 1 <= w.heap.size
theorem gs_below {w0 w w' : World} {B : Nat} {N : List (List UInt8)} {L : List Atr} {ov : Value} {Lq : List (List UInt8 × Value)} (h : GsAt w0 B N L ov Lq w) (hb : Below w.heap.size w w') : GsAt w0 B N L ov Lq w' :=
 ⟨nmAt_below h.1 hb, ownsRow_below h.2.1 hb, gaAt_below h.2.2.1 hb, h.2.2.2.1.trans (hb.mono (by have := h.2.2.2.2; omega)), Nat.le_trans h.2.2.2.2 hb.size⟩
theorem gs_drew {w0 w : World} {B : Nat} {N : List (List UInt8)} {L : List Atr} {ov : Value} {Lq : List (List UInt8 × Value)} (h : GsAt w0 B N L ov Lq w) : GsAt w0 B N L ov Lq w.drew := gs_below h (Below.refl _ w).drew
theorem gs_len {w0 w : World} {B : Nat} {N : List (List UInt8)} {L : List Atr} {ov : Value} {Lq : List (List UInt8 × Value)} (h : GsAt w0 B N L ov Lq w) : Lq.length = L.length := h.2.2.1.1
theorem gs_cells {w0 w : World} {B g n c : Nat} {N : List (List UInt8)} {L : List Atr} {Lq : List (List UInt8 × Value)} (h : GsAt w0 B N L (.slice (some ⟨g, 0, none⟩) n c) Lq w) (j : Nat) (hj : j < Lq.length) :
  w.cell? ⟨g, j * 2, none⟩ = some (.string ⟨Lq[j].1.toArray⟩) /\ w.cell? ⟨g, j * 2 + 1, none⟩ = some Lq[j].2 := by
 have hl := gs_len h
 have hr := h.2.1
 obtain ⟨a, cc, e⟩ := ownsRow_slice hr
 injection e with e1 e2 e3
 subst e2
 obtain ⟨h1, h2⟩ := atcs_at Lq j hj
 exact ⟨(hr.cellAt _ (by omega)).trans h1, (hr.cellAt _ (by omega)).trans h2⟩
theorem gs_keep {w0 w w' : World} {B g n c : Nat} {N : List (List UInt8)} {L : List Atr} {Lq : List (List UInt8 × Value)} (h : GsAt w0 B N L (.slice (some ⟨g, 0, none⟩) n c) Lq w) (j : Nat) (hj : j < Lq.length) (h2 : Chg (fun k => some k = Lq[j].2.ownBlock) w w') :
  w'.ownsRow (B + 1) 45 2 (.slice (some ⟨g, 0, none⟩) n c) L.length (atcs Lq) /\ w'.cell? ⟨g, j * 2 + 1, none⟩ = some Lq[j].2 /\ w'.frozen? ⟨g, j * 2 + 1, none⟩ = false := by
 have hl := gs_len h
 have hr := h.2.1
 have hv := (h.2.2.1.2.1 j hj (by omega)).2
 have hr' := ownsRow_chg hr h2 (fun k hk e => row_apart hr hv (by decide) k hk e.symm)
 refine ⟨hr', ?_, ?_⟩
 ·obtain ⟨a, cc, e⟩ := ownsRow_slice hr
  injection e with e1 e2 e3
  subst e2
  exact (hr'.cellAt _ (by omega)).trans (atcs_at Lq j hj).2
 ·obtain ⟨a, cc, e⟩ := ownsRow_slice hr
  injection e with e1 e2 e3
  subst e2
  exact hr'.frozenAt _
theorem gs_step {w0 w w' : World} {B g n c : Nat} {N : List (List UInt8)} {L : List Atr} {Lq : List (List UInt8 × Value)} (h : GsAt w0 B N L (.slice (some ⟨g, 0, none⟩) n c) Lq w) (j : Nat) (hj : j < Lq.length) (t : List UInt8) (ht : Lq[j].1 = t) (Y : List (List UInt8)) (v' : Value)
  (h1 : w'.ownsRow (B + 1) 9 1 v' Y.length (sc Y)) (h2 : Chg (fun k => some k = Lq[j].2.ownBlock) w w') (h3 : v'.ownBlock = Lq[j].2.ownBlock \/ ∃ k, v'.ownBlock = some k /\ w.heap.size <= k) :
  GsAt w0 B N (L.set j (t, Y)) (.slice (some ⟨g, 0, none⟩) n c) (Lq.set j (t, v')) (w'.setCell ⟨g, j * 2 + 1, none⟩ v') := by
 obtain ⟨hr', _, _⟩ := gs_keep h j hj h2
 obtain ⟨hnm, hr, hga, hb, hs⟩ := h
 have hl := hga.1
 have hv := (hga.2.1 j hj (by omega)).2
 have hga' := gaAt_set hga j hj t ht Y v' h1 h2 h3
 have hcS : Chg (fun k => k = g) w' (w'.setCell ⟨g, j * 2 + 1, none⟩ v') := (Chg.refl (fun k => k = g) w').setCell (p := ⟨g, j * 2 + 1, none⟩) (fun _ => rfl) _
 have hgB := (hr'.lt g rfl).1
 have hz := h2.size
 refine ⟨?_, ?_, ?_, ?_, ?_⟩
 ·have n1 := nmAt_chg hnm h2 (fun b hb2 e => by
   injection hb2 with hb2
   injection hb2 with hb2
   exact row_ne_map hv hnm b e.symm hb2.symm)
  exact nmAt_chg n1 hcS (fun b hb2 e => by
   injection hb2 with hb2
   injection hb2 with hb2
   have e : b = g := e
   omega)
 ·have hst := own_stored hr' (j * 2 + 1) v'
  rw [atcs_set1 Lq j hj v', ht] at hst
  rw [List.length_set]
  exact hst
 ·refine gaAt_chg hga' hcS (fun i hi k hk e => ?_)
  have hi2 : i < (L.set j (t, Y)).length := by rw [List.length_set] at hi ⊢; omega
  have e : k = g := e
  subst e
  exact row_apart hr' (hga'.2.1 i hi hi2).2 (by decide) k rfl hk
 ·exact (hb.trans (h2.toBelow (by omega) (fun k hk e => by have := (hv.lt k e.symm).1; omega))).trans (hcS.toBelow (by omega) (fun k hk e => by have e : k = g := e; omega))
 ·have := hcS.size
  omega
theorem gs_map {w0 w w' : World} {B : Nat} {N N' : List (List UInt8)} {L : List Atr} {ov : Value} {Lq : List (List UInt8 × Value)} (h : GsAt w0 B N L ov Lq w) (hg : w.grownBy w' (some B)) (hnm : NmAt w' (.map (some B)) N') : GsAt w0 B N' L ov Lq w' := by
 obtain ⟨_, hr, hga, hb, hs⟩ := h
 have hc := Chg.ofGrown hg
 refine ⟨hnm, ownsRow_chg hr hc (fun k hk e => ?_), gaAt_chg hga hc (fun i hi k hk e => ?_), hb.trans (hc.toBelow (by omega) (fun k hk e => ?_)), Nat.le_trans hs hc.size⟩
 ·have := (hr.lt k hk).1
  injection e with e
  omega
 ·have hl := hga.1
  have := ((hga.2.1 i hi (by omega)).2.lt k hk).1
  injection e with e
  omega
 ·injection e with e
  omega
theorem gs_push {w0 w w' : World} {B : Nat} {N : List (List UInt8)} {L : List Atr} {ov v' : Value} {Lq : List (List UInt8 × Value)} {t : List UInt8} (h : GsAt w0 B N L ov Lq w) (h1 : w'.ownsRow (B + 1) 45 2 v' (L.length + 1) (atcs Lq ++ [.string ⟨t.toArray⟩, .slice none 0 0])) (h2 : Chg (fun k => some k = ov.ownBlock) w w') :
  GsAt w0 B N (L ++ [(t, [])]) v' (Lq ++ [(t, .slice none 0 0)]) w' := by
 obtain ⟨hnm, hr, hga, hb, hs⟩ := h
 have hl := hga.1
 refine ⟨nmAt_chg hnm h2 (fun b hb2 e => ?_), ?_, gaAt_snoc (gaAt_chg hga h2 (fun i hi k hk e => ?_)) t, hb.trans (h2.toBelow (by omega) (fun k hk e => ?_)), Nat.le_trans hs h2.size⟩
 ·injection hb2 with hb2
  injection hb2 with hb2
  exact row_ne_map hr hnm b e.symm hb2.symm
 ·rw [List.length_append, atcs_app]
  exact h1
 ·exact row_apart hr (hga.2.1 i hi (by omega)).2 (by decide) k e.symm hk
 ·have := (hr.lt k e.symm).1
  omega
end Go.Proofs.YtpkbgkoocijegaaGreatDoor
