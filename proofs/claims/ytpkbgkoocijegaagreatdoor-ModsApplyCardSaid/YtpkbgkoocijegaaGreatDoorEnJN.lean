/- The row that the code's clean has gathered, put in order. The code's clean: each type once, rising, and each of its values once. slices.DeleteFunc of attributes in a row of the call's own. slices.DeleteFunc of attributes, what is not asked for. -/
import Derived.Test.YtpkbgkoocijegaaGreatDoorLayw
import Derived.Test.YtpkbgkoocijegaaGreatDoorEnFI
import Derived.Laws.IdiomCopy
set_option linter.unusedVariables false
set_option linter.unusedSimpArgs false
set_option maxHeartbeats 25600000
set_option maxRecDepth 100000
namespace Go.Proofs.YtpkbgkoocijegaaGreatDoor
open Go Go.RowKit Go.Proofs.BerK Go.Proofs.MemK Go.Proofs.UtfK
open Go.Sort hiding Below
theorem cb_lt (a b : List UInt8) : (Lib.compareBytes a b < 0) ↔ a < b := by
 induction a generalizing b with
 | nil => cases b with
  | nil => simp [Lib.compareBytes]
  | cons y b => simp [Lib.compareBytes]
 | cons x a ih => cases b with
  | nil => simp [Lib.compareBytes]
  | cons y b =>
   rw [List.cons_lt_cons_iff, Lib.compareBytes]
   by_cases h1 : x < y
   ·rw [if_pos h1]; simp [h1]
   ·rw [if_neg h1]
    by_cases h2 : y < x
    ·rw [if_pos h2]
     have h3 : x ≠ y := fun e => by subst e; exact h1 h2
     simp [h1, h3]
    ·rw [if_neg h2, ih]
     have h3 : x = y := UInt8.le_antisymm (UInt8.not_lt.1 h2) (UInt8.not_lt.1 h1)
     simp [h1, h3]
abbrev SoT : Type := Atr × (Option Addr × Nat × Nat)
def encZ (x : SoT) : List Value := [.string ⟨x.1.1.toArray⟩, .slice x.2.1 x.2.2.1 x.2.2.2]
def enq (x : SoT) : List UInt8 × Value := (x.1.1, .slice x.2.1 x.2.2.1 x.2.2.2)
def cmpZ (x y : SoT) : Int := Lib.compareBytes x.1.1 y.1.1
theorem ltB_iff2 {a b : List UInt8} : ltB a b = true ↔ a < b := by unfold ltB; simp
theorem ltZ (x y : SoT) : ltOf cmpZ x y = ltB x.1.1 y.1.1 := by
 unfold ltOf cmpZ ltB
 rw [Bool.eq_iff_iff, decide_eq_true_iff, decide_eq_true_iff]
 exact cb_lt _ _
theorem swoZ : SWO (ltOf cmpZ) where
 irrefl x := by rw [ltZ]; exact ltB_irrefl _
 trans x y z h1 h2 := by rw [ltZ] at *; exact ltB_trans h1 h2
 ntrans x y z h1 h2 := by
  rw [ltZ] at *
  unfold ltB at *
  rw [decide_eq_false_iff_not] at *
  exact List.not_lt.2 (List.le_trans (List.not_lt.1 h2) (List.not_lt.1 h1))
theorem flat_z (r : List SoT) : flatK encZ 2 r.toArray = (atcs (r.map enq)).toArray := by
 apply Array.ext_getElem?
 intro t
 by_cases ht : t < r.length * 2
 ·have h1 : t < (flatK encZ 2 r.toArray).size := by rw [size_flatK]; simpa using ht
  have hlt : t / 2 < r.length := by omega
  have h2 := get_flatK encZ 2 r.toArray t (by simpa using ht)
  rw [getElem!_pos (flatK encZ 2 r.toArray) t h1] at h2
  rw [Array.getElem?_eq_getElem h1, h2, List.getElem?_toArray]
  have e : (r.toArray)[t / 2]! = r[t / 2] := by
   rw [getElem!_pos r.toArray (t / 2) (by simpa using hlt)]; simp
  rw [e]
  obtain ⟨a1, a2⟩ := atcs_at (r.map enq) (t / 2) (by simpa using hlt)
  rw [List.getElem_map] at a1 a2
  rcases (show t % 2 = 0 \/ t % 2 = 1 by omega) with h | h
  ·rw [show t / 2 * 2 = t by omega] at a1
   rw [a1, h]; rfl
  ·rw [show t / 2 * 2 + 1 = t by omega] at a2
   rw [a2, h]; rfl
 ·rw [Array.getElem?_eq_none (by rw [size_flatK]; simpa using ht), List.getElem?_toArray, List.getElem?_eq_none (by rw [atcs_len]; simp; omega)]
theorem putCells_size (F c : Array Value) : (putCells id 0 F c).size = c.size := by unfold putCells; simp
theorem putCells_take (F c : Array Value) (h : F.size <= c.size) : (putCells id 0 F c).toList.take F.size = F.toList := by
 apply List.ext_getElem?
 intro t
 rw [List.getElem?_take]
 by_cases ht : t < F.size
 ·rw [if_pos ht, Array.getElem?_toList, Array.getElem?_toList]
  unfold putCells
  rw [Array.getElem?_mapIdx, Array.getElem?_eq_getElem (by omega : t < c.size), Option.map_some, if_pos ⟨Nat.zero_le _, by omega⟩, Array.getElem?_eq_getElem ht]
  simp only [id, Nat.sub_zero]
  rw [getElem!_pos F t ht]
 ·rw [if_neg ht, Array.getElem?_toList, Array.getElem?_eq_none (by omega)]
theorem sortW_facts {w : World} {B g n cap : Nat} {xs : List Value} {D : List SoT} (hr : w.ownsRow B 45 2 (.slice (some ⟨g, 0, none⟩) n cap) n xs) (hD : D.length = n) (m : Nat) (os : Array Obj) :
  (sortWorldK encZ 2 w g 0 m D.toArray os).ownsRow B 45 2 (.slice (some ⟨g, 0, none⟩) n cap) n (atcs (D.map enq)) /\ Chg (fun k => k = g) w (sortWorldK encZ 2 w g 0 m D.toArray os) := by
 have hlen : (atcs (D.map enq)).length = n * 2 := by rw [atcs_len, List.length_map, hD]
 rcases hr.2 with ⟨h, _⟩ | ⟨g', cap', cur, h, hB, hg, hnc, hcm, hcs, _⟩
 ·cases h
 simp only [Value.slice.injEq, Option.some.injEq, Addr.mk.injEq, and_true, true_and] at h
 obtain ⟨rfl, rfl⟩ := h
 have hgl : g < w.heap.size := (Array.getElem?_eq_some_iff.1 hg).1
 have hold : ∀ j, j < w.heap.size -> (sortWorldK encZ 2 w g 0 m D.toArray os).heap[j]? = (putRow id (Go.Sort.ahead w m) g 0 (atcs (D.map enq)).toArray).heap[j]? := by
  intro j hj
  unfold sortWorldK putRowK
  rw [heap_grow_old _ _ (by simpa using hj), flat_z]
 have hat : (putRow id (Go.Sort.ahead w m) g 0 (atcs (D.map enq)).toArray).heap[g]? = some (.cells (putCells id 0 (atcs (D.map enq)).toArray cur) 45 (0, 0)) := by
  unfold putRow mapBlock
  simp [Array.getElem?_modify, hg, onCells]
 have hno : ∀ j, j ≠ g -> (putRow id (Go.Sort.ahead w m) g 0 (atcs (D.map enq)).toArray).heap[j]? = w.heap[j]? := by
  intro j hj
  have : (Go.Sort.ahead w m).heap[j]? = w.heap[j]? := rfl
  rw [<- this]
  unfold putRow mapBlock
  simp [Array.getElem?_modify, Ne.symm hj]
 refine ⟨⟨hlen, .inr ⟨g, cap, _, rfl, hB, (hold g hgl).trans hat, hnc, hcm, by rw [putCells_size, hcs], ?_⟩⟩, ⟨rfl, rfl, rfl, ?_, fun j hj hne => (hold j hj).trans (hno j hne)⟩⟩
 ·have := putCells_take (atcs (D.map enq)).toArray cur (by rw [List.size_toArray, hlen, hcs]; exact Nat.mul_le_mul_right _ hnc)
  rw [List.size_toArray, hlen] at this
  exact this
 ·unfold sortWorldK putRowK
  simp
theorem cmp1_any (x y : SoT) (W : World) : Calls Tryz.prog 130 #[.agg #[.string ⟨x.1.1.toArray⟩, .slice x.2.1 x.2.2.1 x.2.2.2], .agg #[.string ⟨y.1.1.toArray⟩, .slice y.2.1 y.2.2.1 y.2.2.2]] W (fun e w' => e = .returned (.int .i64 (cmpZ x y)) /\ ∃ q os', w' = grow (W.drewN q) os') := by
 have hcon := fun W' => Any.strings_Compare Tryz.strCmp ⟨x.1.1.toArray⟩ ⟨y.1.1.toArray⟩ W'
 change ∀ W', Calls Tryz.prog 113 #[.string ⟨x.1.1.toArray⟩, .string ⟨y.1.1.toArray⟩] W' (fun e w' => e = .returned (.int .i64 (cmpZ x y)) /\ w' = W') at hcon
 obtain ⟨⟨xn, xv⟩, xa, xl, xc⟩ := x
 obtain ⟨⟨yn, yv⟩, ya, yl, yc⟩ := y
 generalize cmpZ ((xn, xv), xa, xl, xc) ((yn, yv), ya, yl, yc) = r at hcon ⊢
 have HC := Lib.hid hcon
 clear hcon
 go_enter Tryz.func130, Tryz.ntmps130
 go_wp2_with (go_at_call 113; refine (HC.out _).mono ?_; rintro e w' ⟨rfl, rfl⟩)
 go_ret
 exact ⟨rfl, 0, _, by rw [alloc_eq_grow, alloc_eq_grow, grow_grow]; rfl⟩
def SoPost (w0 : World) (B : Nat) (L : List Atr) (ov : Value) (en : Ending) (w' : World) : Prop :=
 en = .returned (.tuple #[]) /\ ∃ Lq' L', L'.Perm L /\ L'.Pairwise (fun p q => ¬ q.1 < p.1) /\ AtOk w' Lq' L' /\ w'.ownsRow (B + 1) 45 2 ov L.length (atcs Lq') /\ Below B w0 w'
def comp : Value -> Option Addr × Nat × Nat
 | .slice a n c => (a, n, c)
 | _ => (none, 0, 0)
theorem sortat_any {w0 : World} {B : Nat} {N : List (List UInt8)} {L : List Atr} {ov : Value} {Lq : List (List UInt8 × Value)} (w : World) (h : GsAt w0 B N L ov Lq w) (hl : L.length <= 1000000) :
  Calls Tryz.prog 129 #[ov, .func (.func 130) #[] #[]] w (SoPost w0 B L ov) := by
 obtain ⟨hnm, hr, hga, hb, hs⟩ := h
 rcases hr.2 with ⟨rfl, h0⟩ | ⟨g, cap, cur, rfl, hgB, hgc, _⟩
 ·have hcon := AnyF.slices_SortFunc_none Tryz.sortAtr none 0 (.func (.func 130) #[] #[]) w
  change Calls Tryz.prog 129 _ _ _ at hcon
  refine hcon.mono ?_
  rintro en w' ⟨rfl, rfl⟩
  have e : L = [] := List.eq_nil_of_length_eq_zero h0
  subst e
  exact ⟨rfl, Lq, [], List.Perm.refl _, List.Pairwise.nil, gaAt_ok hga, hr, hb⟩
 ·have hql := hga.1
  have hgl : g < w.heap.size := (Array.getElem?_eq_some_iff.1 hgc).1
  obtain ⟨Z, hZ⟩ : ∃ Z : List SoT, List.zipWith (fun p q => (p, comp q.2)) L Lq = Z := ⟨_, rfl⟩
  have hZl : Z.length = L.length := by rw [<- hZ, List.length_zipWith]; omega
  have hZi : ∀ i (h1 : i < Z.length) (h2 : i < L.length) (h3 : i < Lq.length), Z[i] = (L[i], comp Lq[i].2) := by
   intro i h1 h2 h3
   subst hZ
   rw [List.getElem_zipWith]
  have hsl : ∀ i (h2 : i < L.length) (h3 : i < Lq.length), ∃ a n c, Lq[i].2 = .slice a n c := fun i h2 h3 => by
   obtain ⟨a, c, e⟩ := ownsRow_slice (hga.2.1 i h3 h2).2
   exact ⟨a, _, c, e⟩
  have hZ1 : Z.map enq = Lq := by
   refine List.ext_getElem (by rw [List.length_map]; omega) fun i h1 h2 => ?_
   rw [List.length_map] at h1
   rw [List.getElem_map, hZi i h1 (by omega) h2]
   obtain ⟨a, n, c, e⟩ := hsl i (by omega) h2
   have e1 := (hga.2.1 i h2 (by omega)).1
   refine Prod.ext ?_ ?_
   ·exact e1.symm
   ·show Value.slice (comp Lq[i].2).1 (comp Lq[i].2).2.1 (comp Lq[i].2).2.2 = Lq[i].2
    rw [e]; rfl
  have hZ2 : Z.map (·.1) = L := by
   refine List.ext_getElem (by rw [List.length_map]; omega) fun i h1 h2 => ?_
   rw [List.length_map] at h1
   rw [List.getElem_map, hZi i h1 h2 (by omega)]
  have hZp : ∀ x ∈ Z, w.ownsRow (B + 1) 9 1 (enq x).2 x.1.2.length (sc x.1.2) := by
   intro x hx
   obtain ⟨i, hi, rfl⟩ := List.mem_iff_getElem.1 hx
   have h2 : i < L.length := by omega
   have h3 : i < Lq.length := by omega
   have e := hZi i hi h2 h3
   have ho := (hga.2.1 i h3 h2).2
   have e2 : (enq Z[i]).2 = Lq[i].2 := by
    have := congrArg (fun l => l[i]?) hZ1
    simp only [List.getElem?_map, List.getElem?_eq_getElem hi, List.getElem?_eq_getElem h3, Option.map_some, Option.some.injEq] at this
    rw [this]
   rw [e2, e]
   exact ho
  have eg : ∀ args w, (callFunc 130 args).run Tryz.prog w = .ok (.enter 130 args) w := enters_of Tryz.func130 (by kernel_rfl) rfl
  have hH : HoldsK encZ 2 w g 0 Z.toArray := by
   intro j hj
   rw [flat_z, hZ1] at hj ⊢
   have hj' : j < (atcs Lq).length := by simpa using hj
   have hj2 : j < L.length * 2 := by rw [atcs_len] at hj'; omega
   refine ⟨?_, ?_⟩
   ·rw [Nat.zero_add]
    refine (hr.cellAt j hj2).trans ?_
    rw [getElem!_pos _ j hj, List.getElem?_eq_getElem hj']
    simp
   ·rw [Nat.zero_add]; exact hr.frozenAt j
  have hcon := AnyQ.slices_SortFunc Tryz.sortAtr 2 Tryz.isAgg45 Tryz.sizeOf45 encZ (fun _ => rfl) (fun x v hv => by simp [encZ] at hv; rcases hv with rfl | rfl <;> rfl) cmpZ swoZ 130 #[] g 0 cap Z.toArray w eg (fun _ _ _ _ x y => cmp1_any x y _) hH hgl (by rw [List.size_toArray]; omega)
  have hsz : Z.toArray.size = L.length := by rw [List.size_toArray]; exact hZl
  rw [hsz] at hcon
  change Calls Tryz.prog 129 _ _ _ at hcon
  refine hcon.mono ?_
  rintro en w' ⟨rfl, d', m, os, ⟨hp1, _, hp3⟩, hso, rfl⟩
  obtain ⟨D, rfl⟩ : ∃ D : List SoT, d' = D.toArray := ⟨d'.toList, by simp⟩
  have hDl : D.length = L.length := by rw [List.size_toArray] at hp1; omega
  have hDp : D.Perm Z := by
   have e1 : (D.toArray.extract 0 L.length).toList = D := by simp [List.take_of_length_le (by omega : D.length <= L.length)]
   have e2 : (Z.toArray.extract 0 L.length).toList = Z := by simp [List.take_of_length_le (by omega : Z.length <= L.length)]
   rw [e1, e2] at hp3
   exact hp3
  obtain ⟨f1, f2⟩ := sortW_facts hr hDl m os
  refine ⟨rfl, D.map enq, D.map (·.1), ?_, ?_, ⟨by simp, fun i h1 h2 => ?_⟩, f1, hb.trans (f2.toBelow (by omega) (fun k hk e => by have e : k = g := e; omega))⟩
  ·have := hDp.map (·.1)
   rw [hZ2] at this
   exact this
  ·rw [List.pairwise_map, List.pairwise_iff_getElem]
   intro i j hi hj hij hlt
   have h := hso i j (Nat.zero_le _) hij (by omega)
   rw [getElem!_pos D.toArray i (by simpa using hi), getElem!_pos D.toArray j (by simpa using hj), ltZ] at h
   simp only [List.getElem_toArray] at h
   rw [ltB_iff2.2 hlt] at h
   cases h
  ·rw [List.length_map] at h1 h2
   rw [List.getElem_map, List.getElem_map]
   have hx := hZp D[i] (hDp.mem_iff.1 (List.getElem_mem h1))
   exact ⟨rfl, B + 1, ownsRow_chg hx f2 (fun k hk e => by
    have e : k = g := e
    subst e
    exact row_apart hr hx (by decide) k rfl hk)⟩
end Go.Proofs.YtpkbgkoocijegaaGreatDoor
namespace Go.Proofs.YtpkbgkoocijegaaGreatDoor
open Go Go.RowKit Go.Proofs.BerK Go.Proofs.MemK Go.Proofs.UtfK
def CaPost (L : List Atr) (w : World) (en : Ending) (w' : World) : Prop := ∃ v Lq, en = .returned v /\ AtOk w' Lq L /\ w'.ownsRow w.heap.size 45 2 v L.length (atcs Lq) /\ Below w.heap.size w w'
def mixL (A : List Atr) (i : Nat) : List Atr := (gcL A).take i ++ (gaL A).drop i
theorem mix_0 (A : List Atr) : mixL A 0 = gaL A := by simp [mixL]
theorem mix_len (A : List Atr) (i : Nat) (hi : i <= (gaL A).length) : (mixL A i).length = (gaL A).length := by
 unfold mixL gcL
 simp
 omega
theorem mix_all (A : List Atr) : mixL A (gaL A).length = gcL A := by
 unfold mixL gcL
 rw [List.drop_length, List.append_nil, List.take_of_length_le (by simp)]
theorem mix_at (A : List Atr) (i : Nat) (hi : i < (gaL A).length) (h : i < (mixL A i).length) : (mixL A i)[i] = (gaL A)[i] := by
 have e : (mixL A i)[i]? = some (gaL A)[i] := by
  have h1 : (List.take i (gcL A)).length = i := by rw [List.length_take]; unfold gcL; simp; omega
  unfold mixL
  rw [List.getElem?_append_right (by omega), h1, Nat.sub_self, List.getElem?_drop, Nat.add_zero, List.getElem?_eq_getElem hi]
 rw [List.getElem?_eq_getElem h] at e
 injection e
theorem mix_step (A : List Atr) (i : Nat) (hi : i < (gaL A).length) : mixL A (i + 1) = (mixL A i).set i ((gaL A)[i].1, onL (gaL A)[i].2) := by
 have hg : i < (gcL A).length := by unfold gcL; simpa using hi
 unfold mixL
 rw [List.take_succ_eq_append_getElem hg, List.set_append]
 have h1 : (List.take i (gcL A)).length = i := by rw [List.length_take]; omega
 rw [h1, if_neg (by omega), Nat.sub_self, List.drop_eq_getElem_cons hi, List.set_cons_zero, List.append_assoc]
 congr 1
 have e : (gcL A)[i] = ((gaL A)[i].1, onL (gaL A)[i].2) := List.getElem_map _
 rw [e, List.singleton_append]
theorem ga_ne {A : List Atr} {i : Nat} (hi : i < (gaL A).length) : (gaL A)[i].2 ≠ [] := by
 have hm : (nmN A)[i]'(by rw [<- ga_len]; exact hi) ∈ nmN A := List.getElem_mem _
 have e : (gaL A)[i].2 = vaL A ((nmN A)[i]'(by rw [<- ga_len]; exact hi)) := by simp [gaL]
 rw [e]
 exact nm_mem.1 hm
theorem gs_reg {w0 w : World} {B g n c : Nat} {N : List (List UInt8)} {L : List Atr} {Lq : List (List UInt8 × Value)} (h : GsAt w0 B N L (.slice (some ⟨g, 0, none⟩) n c) Lq w) (j : Nat) (hj : j < Lq.length) (v : Value) (hv : Lq[j].2 = v) :
  ∀ w', Chg (fun k => some k = v.ownBlock) w.drew w' -> w'.cell? ⟨g, j * 2 + 1, none⟩ = some v /\ w'.frozen? ⟨g, j * 2 + 1, none⟩ = false := by
 intro w' h2
 subst hv
 exact (gs_keep (gs_drew h) j hj h2).2
theorem clean_any (A : List Atr) (v : Value) (w : World) (h : EaAt w v A) (hf : FewE A) : Calls Tryz.prog 72 #[v] w (CaPost (clA A) w) := by
 obtain ⟨_, a, c, rfl, hcells⟩ := h
 have HM := Lib.hid hcells
 have HF := Lib.hid hf
 have HSk := Lib.hid (fun k (hk : k < A.length) (he : A[k].2 = []) => And.intro (nm_skip k hk he) (ga_skip k hk he))
 have HHi := Lib.hid (fun k (hk : k < A.length) (he : A[k].2 ≠ []) j (hj : ixL (nmN (A.take k)) (lowL A[k].1) = some j) => And.intro (nm_hit k hk he hj) (ga_hit k hk he hj))
 have HNw := Lib.hid (fun k (hk : k < A.length) (he : A[k].2 ≠ []) (hj : ixL (nmN (A.take k)) (lowL A[k].1) = none) => And.intro (nm_new k hk he hj) (ga_new k hk he hj))
 have HGf := Lib.hid (fun k => fewG_ga (fewG_take (m := 1000) (k := 1000) hf k))
 have HT := Lib.hid (show A.take A.length = A from List.take_length)
 obtain ⟨n, hn⟩ : ∃ n, A.length = n := ⟨_, rfl⟩
 have HL := Lib.hid hn
 have hnl : n <= 1000 := by rw [<- hn]; exact hf.1
 rw [hn] at HT ⊢
 have hmm := @run_makeMap Tryz.prog
 clear hcells hf hn
 go_enter Tryz.func72, Tryz.ntmps72
 go_wp2
 clear hmm
 go_loopw [4, 15] (fun o v wr => ∃ (k : Nat) (Lq : List (List UInt8 × Value)), k <= n /\ v = .int .i64 (k : Nat) /\ GsAt w w.heap.size (nmN (A.take k)) (gaL (A.take k)) o Lq wr) (fun _ v _ => n - (intOf v).toNat)
 case atStart =>
  refine ⟨0, [], by omega, rfl, ?_⟩
  rw [List.take_zero, nmN_nil, ga_nil]
  exact ⟨.inr ⟨_, _, rfl, World.ownsMap_made _ _ _ _, nmIs_nil⟩, World.ownsRow_nil _ _ _ _, gaAt_nil _ _, (Below.refl _ _).alloc (Nat.le_refl _) _, by simp⟩
 case round =>
  obtain ⟨k, Lq, hk, rfl, hgs⟩ := hrel
  by_cases hlt : k < n
  ·have hkl : (k : Int) < (n : Int) := by omega
   have hkm : k < A.length := by rw [HL.out]; exact hlt
   obtain ⟨g, o, vl, rfl, hg, e0w, e1w, hvl, hvk⟩ := HM.out k hkm
   have hbw := hgs.2.2.2.1
   have e0 := (hbw.cell (p := ⟨g, _, none⟩) hg).trans e0w
   have e1 := (hbw.cell (p := ⟨g, _, none⟩) hg).trans e1w
   have hrd := rd_txR hvl hvk
   have hFk := HF.out.2 _ (List.getElem_mem hkm)
   have hSk := HSk.out k hkm
   have hHi := HHi.out k hkm
   have hNw := HNw.out k hkm
   have hGf := HGf.out k
   obtain ⟨va, vc, rfl, _⟩ := hvl
   obtain ⟨m, hmm⟩ : ∃ m, A[k].1 = m := ⟨_, rfl⟩
   obtain ⟨V, hV⟩ : ∃ V, A[k].2 = V := ⟨_, rfl⟩
   obtain ⟨N, hN⟩ : ∃ N, nmN (A.take k) = N := ⟨_, rfl⟩
   obtain ⟨L, hL⟩ : ∃ L, gaL (A.take k) = L := ⟨_, rfl⟩
   obtain ⟨LM, hLM⟩ : ∃ x, lowL m = x := ⟨_, rfl⟩
   rw [hmm, hV] at hFk
   rw [hmm] at e0
   rw [hV] at e1 hrd
   rw [hV, hN, hL] at hSk
   rw [hmm, hV, hN, hL, hLM] at hHi hNw
   rw [hL] at hGf
   rw [hN, hL] at hgs
   have hNL0 := ga_len (A.take k)
   rw [hN, hL] at hNL0
   have HLo := Lib.hid (fun w => show Calls Tryz.prog 74 #[.string ⟨m.toArray⟩] w (StrPost (lowL m) w) from lower_any ⟨m.toArray⟩ w)
   have hlm : LM.length <= 140737488355328 := by rw [<- hLM, lowL_length]; omega
   rw [hLM] at HLo
   obtain ⟨nl, hnl2⟩ : ∃ x, V.length = x := ⟨_, rfl⟩
   rw [hnl2] at e1 hrd hFk
   have hnl1 := hFk.2.1
   obtain ⟨W2, hW2⟩ : ∃ W2, wr.alloc (.cells #[.string ⟨m.toArray⟩, .slice va nl vc] 45) = W2 := ⟨_, rfl⟩
   have hb2 : Below wr.heap.size wr W2 := by rw [<- hW2]; exact (Below.refl _ wr).alloc (Nat.le_refl _) _
   have y2 : W2.heap[wr.heap.size]? = some (.cells #[.string ⟨m.toArray⟩, .slice va nl vc] 45 (0, 0)) := by rw [<- hW2]; exact heap_alloc_new wr _
   have HW2 := Lib.hid hW2
   obtain ⟨i0, i1⟩ := obj2s y2
   have H := Lib.hid (And.intro hgs (And.intro hb2 (And.intro y2 (And.intro hrd hGf))))
   clear hgs hb2 y2 hrd hGf hbw e0w e1w hvk hFk hmm hN hL hLM hg
   by_cases h0 : nl = 0
   ·subst h0
    have HK := Lib.hid (hSk (List.eq_nil_of_length_eq_zero hnl2))
    clear hSk hHi hNw hnl2 hV hW2
    go_wp2
    try rw [HW2.out]
    refine ⟨⟨k + 1, Lq, by omega, by go_num, ?_⟩, by simp [intOf]; omega⟩
    rw [HK.out.1, HK.out.2]
    exact gs_below H.out.1 H.out.2.1
   ·have hVn : V ≠ [] := fun e => h0 (by rw [<- hnl2, e]; rfl)
    have hz : ((nl : Int) == 0) = false := by rw [beq_eq_false_iff_ne]; omega
    have HHi' := Lib.hid (hHi hVn)
    have HNw' := Lib.hid (hNw hVn)
    have HVl := Lib.hid hnl2
    clear hSk hHi hNw hnl2 hV hVn hW2
    go_wp2_with fail
    rw [HW2.out]
    refine (HLo.out _).mono ?_
    rintro e w5 ⟨rfl, hb5⟩
    clear i0 i1 e0 e1
    have hb6 : Below wr.heap.size wr w5 := H.out.2.1.trans (hb5.mono H.out.2.1.size)
    have y5 := obj_below H.out.2.2.1 hb5 (obj_lt H.out.2.2.1)
    have hgs5 := gs_below H.out.1 hb6
    have hrd5 := rdRow_below H.out.2.2.2.1 hgs5.2.2.2.1
    have hrun := nm_look hgs5.1 LM hlm
    obtain ⟨j0, j1⟩ := obj2s y5
    cases hq : ixL N LM with
    | some j =>
     rw [hq] at hrun
     unfold plV at hrun
     obtain ⟨hNk, hjL, hjn, hGk⟩ := HHi'.out j hq
     have hjq : j < Lq.length := by rw [gs_len hgs5]; exact hjL
     obtain ⟨og, oc, rfl, hogB, hogl⟩ := own_block hgs5.2.1 (by omega)
     have hqj := hgs5.2.2.1.2.1 j hjq hjL
     have hLj := (H.out.2.2.2.2.2 _ (List.getElem_mem hjL)).2.1
     have p1 := (gs_cells hgs5 j hjq).2
     have hreg := gs_reg hgs5 j hjq
     have hsz5 := hgs5.2.2.2.2
     obtain ⟨X, hX⟩ : ∃ X, L[j].2 = X := ⟨_, rfl⟩
     obtain ⟨vj, hvj⟩ : ∃ x, Lq[j].2 = x := ⟨_, rfl⟩
     have hjt : Lq[j].1 = LM := hqj.1.trans hjn
     have hown := hqj.2
     rw [hX, hvj] at hown
     rw [hvj] at p1
     rw [hX] at hLj hGk
     have hreg2 := hreg vj hvj
     clear hreg
     obtain ⟨ja, jc, rfl⟩ := ownsRow_slice hown
     obtain ⟨xl, hxl⟩ : ∃ x, X.length = x := ⟨_, rfl⟩
     rw [hxl] at hown p1 hvj hreg2 hLj
     obtain ⟨ln, hln⟩ : ∃ x, L.length = x := ⟨_, rfl⟩
     rw [hln] at hgs5 hjL ⊢
     have hjln : (j : Int) < (ln : Int) := by omega
     have H8 := Lib.hid (And.intro hgs5 (And.intro hown (And.intro hrd5 (And.intro (show w.heap.size + 1 <= w5.drew.heap.size from hsz5) hreg2))))
     have H9 := Lib.hid (And.intro hNk (And.intro hGk (And.intro hjq (And.intro hjt (And.intro hvj (And.intro hxl hln))))))
     clear hgs5 hown hrd5 hsz5 hreg2 hNk hGk hjt hvj hxl hln hX hqj hjn y5 hb5 hb6 hjL hq hogB hogl
     go_wp2
     go_region_law (refine step_appendr rfl (.tmp 50) (.tmp 52) 43 9 rfl (w.heap.size + 1) 1 16 (.string ByteArray.empty) Tryz.scinfo9 Tryz.underlying43 rfl (by decide) (.slice ja xl jc) xl (sc X) rfl (ownsRow_heap H8.out.2.1 rfl) (.slice va nl vc) nl (sc V) rfl H8.out.2.2.1 (by omega) (sc_one_cell _) (by unfold maxLen; omega) (by omega) H8.out.2.2.2.1 ?_; intro v' w' h1 h2 h3; obtain ⟨na, nc, rfl⟩ := ownsRow_slice h1; have h4 := H8.out.2.2.2.2 w' h2; have q1 := h4.1; have q2 := h4.2)
     all_goals
      have HV := Lib.hid (And.intro h1 (And.intro h2 h3))
      clear h1 h2 h3 h4 q1 q2
      go_wp2
      have HG := Lib.hid (gs_step (gs_drew H8.out.1) j H9.out.2.2.1 LM H9.out.2.2.2.1 (X ++ V) (.slice na (xl + nl) nc) (by rw [List.length_append, H9.out.2.2.2.2.2.1, HVl.out, sc_append]; exact HV.out.1) (by rw [H9.out.2.2.2.2.1]; exact HV.out.2.1) (by rw [H9.out.2.2.2.2.1]; exact HV.out.2.2))
      refine ⟨⟨k + 1, Lq.set j (LM, Value.slice na (xl + nl) nc), by omega, by go_num, ?_⟩, by simp [intOf]; omega⟩
      rw [H9.out.1, H9.out.2.1]
      exact HG.out
    | none =>
     rw [hq] at hrun
     unfold plV at hrun
     obtain ⟨hNk, hGk⟩ := HNw'.out hq
     obtain ⟨D, hmown, hD⟩ : ∃ D, w5.ownsMap Tryz.prog 9 (plainElem (H := Unit) Tryz.prog 3) w.heap.size N.length D /\ NmIs D N := by
      rcases hgs5.1 with ⟨h, _⟩ | ⟨b', D, h, hm, hD⟩
      ·cases h
      ·injection h with h; injection h with h; subst h; exact ⟨D, hm, hD⟩
     have hNL : N.length = L.length := hNL0.symm
     have hLl := H.out.2.2.2.2.1
     obtain ⟨ra, rc, rfl⟩ := ownsRow_slice hgs5.2.1
     obtain ⟨ln, hln⟩ : ∃ x, L.length = x := ⟨_, rfl⟩
     rw [hln] at hNL hLl hgs5 ⊢
     have hkey := snkey LM hlm
     have hwf : (Lit.int .i64 (ln : Nat)).wf = true := WalkArith.wf_i64 (by omega)
     have hne1 : some wr.heap.size ≠ some w.heap.size := fun e => by injection e with e; have := H.out.1.2.2.2.2; omega
     have hne2 : some wr.heap.size ≠ (Value.slice ra ln rc).ownBlock := fun e => by have := (H.out.1.2.1.lt wr.heap.size (by rw [hln]; exact e.symm)).2; omega
     have hNLx := hNL
     have hsz5 := hgs5.2.2.2.2
     have H8 := Lib.hid (And.intro hgs5 (And.intro hmown (And.intro hD (And.intro hNk (And.intro hGk (And.intro hln (And.intro y5 (And.intro hNLx (And.intro hq (And.intro hne1 hne2))))))))))
     clear hgs5 hrd5 hD hNk hGk hln y5 hb5 hb6 hq hne1 hne2 hNL0 hNLx
     go_wp2_with (first
      | (at_mapUpdate
         refine wpList_mapUpdate_own _ rfl _ _ _ 125 rfl 9 3 snlaw Tryz.underlying125 _ w.heap.size N.length _ rfl hmown (by unfold maxLen; omega) _ _ _ rfl rfl hkey _ [] (plainElem_int Tryz.underlying3 hwf) ?_
         intro w1 hown1 hgrow1
         have H5 := Lib.hid (And.intro (gs_map H8.out.1 hgrow1 (N' := N ++ [LM]) (.inr ⟨_, _, rfl, by rw [List.length_append]; exact hown1, by have := nmIs_put (H8.out.2.1.tidy snlaw) H8.out.2.2.1 H8.out.2.2.2.2.2.2.2.2.1; rw [H8.out.2.2.2.2.2.2.2.1] at this; exact this⟩)) (obj_chg H8.out.2.2.2.2.2.2.1 (Chg.ofGrown hgrow1) H8.out.2.2.2.2.2.2.2.2.2.1))
         have hsz1 := H5.out.1.2.2.2.2
         clear hown1 hgrow1 hrun hkey hwf hmown j0 j1)
      | (at_builtin; refine wpList_pushc rfl (.tmp 39) (.tmp 42) 22 45 rfl (w.heap.size + 1) 2 40 (.agg #[.string ByteArray.empty, .slice none 0 0]) Tryz.sninfo45 Tryz.underlying22 rfl (by decide) [.string ⟨LM.toArray⟩, .slice none 0 0] rfl ?c0 (.slice ra ln rc) ln (atcs Lq) rfl _ rfl rfl ?c4 ?c1 ?c2 hsz1 ?_)
      | go_in)
     case c0 => intro u hu; simp at hu; rcases hu with rfl | rfl <;> rfl
     case c4 => have := H5.out.1.2.1; rw [H8.out.2.2.2.2.2.1] at this; exact this
     case c1 => unfold maxLen; omega
     case c2 => omega
     intro v2 w2 g1 g2 g3
     obtain ⟨og, oc, rfl, _, _⟩ := own_block g1 (by omega)
     have hgs2 := gs_push (t := LM) H5.out.1 (by rw [H8.out.2.2.2.2.2.1]; exact g1) g2
     have y2 := obj_chg H5.out.2 g2 H8.out.2.2.2.2.2.2.2.2.2.2
     have hqL : Lq.length = ln := by rw [gs_len H5.out.1]; exact H8.out.2.2.2.2.2.1
     have hjq : ln < (Lq ++ [(LM, Value.slice none 0 0)]).length := by rw [List.length_append, hqL]; simp
     have hjv : (Lq ++ [(LM, Value.slice none 0 0)])[ln] = (LM, Value.slice none 0 0) := by simp [<- hqL]
     have p1 := (gs_cells hgs2 ln hjq).2
     have hreg := gs_reg hgs2 ln hjq (.slice none 0 0) (by rw [hjv])
     rw [hjv] at p1
     obtain ⟨j0, j1⟩ := obj2s y2
     have hrd2 := rdRow_below H.out.2.2.2.1 hgs2.2.2.2.1
     have hsz2 := hgs2.2.2.2.2
     have hjln : (ln : Int) < (ln : Int) + 1 := by omega
     have H8b := Lib.hid (And.intro hgs2 (And.intro (World.ownsRow_nil w2 (w.heap.size + 1) 9 1) (And.intro hrd2 (And.intro (show w.heap.size + 1 <= w2.drew.heap.size from hsz2) hreg))))
     have H9 := Lib.hid (And.intro hjq hjv)
     clear hgs2 y2 g1 g2 g3 hreg hrd2 hsz2 hjv hqL
     go_wp2
     go_region_law (refine step_appendr rfl (.tmp 50) (.tmp 52) 43 9 rfl (w.heap.size + 1) 1 16 (.string ByteArray.empty) Tryz.scinfo9 Tryz.underlying43 rfl (by decide) (.slice none 0 0) 0 (sc []) rfl (ownsRow_heap H8b.out.2.1 rfl) (.slice va nl vc) nl (sc V) rfl H8b.out.2.2.1 (by omega) (sc_one_cell _) (by unfold maxLen; omega) (by omega) H8b.out.2.2.2.1 ?_; intro v' w' h1 h2 h3; obtain ⟨na, nc, rfl⟩ := ownsRow_slice h1; have h4 := H8b.out.2.2.2.2 w' h2; have q1 := h4.1; have q2 := h4.2)
     all_goals
      have HV := Lib.hid (And.intro h1 (And.intro h2 h3))
      clear h1 h2 h3 h4 q1 q2
      go_wp2
      have HG := Lib.hid (gs_step (gs_drew H8b.out.1) ln H9.out.1 LM (by rw [H9.out.2]) V (.slice na (0 + nl) nc) (by have := HV.out.1; rw [HVl.out]; rw [Nat.zero_add] at this ⊢; exact this) (by rw [H9.out.2]; exact HV.out.2.1) (by rw [H9.out.2]; exact HV.out.2.2))
      refine ⟨⟨k + 1, (Lq ++ [(LM, Value.slice none 0 0)]).set ln (LM, Value.slice na (0 + nl) nc), by omega, by go_num, ?_⟩, by simp [intOf]; omega⟩
      rw [H8.out.2.2.2.1, H8.out.2.2.2.2.1]
      have e : (L ++ [(LM, [])]).set ln (LM, V) = L ++ [(LM, V)] := by rw [<- H8.out.2.2.2.2.2.1]; simp
      rw [<- e]
      first | exact HG.out | (have HG2 := HG.out; simp only [Nat.zero_add] at HG2 ⊢; exact HG2)
  ·obtain rfl : k = n := by omega
   rw [HT.out] at hgs
   have HGf2 := HGf.out k
   rw [HT.out] at HGf2
   have HFg := Lib.hid HGf2
   obtain ⟨ra, rc, rfl⟩ := ownsRow_slice hgs.2.1
   obtain ⟨ln, hln⟩ : ∃ x, (gaL A).length = x := ⟨_, rfl⟩
   have HLn := Lib.hid hln
   have hln2 : ln <= 1000 := by rw [<- hln]; exact HGf2.1
   rw [hln] at hgs ⊢
   have H0 := Lib.hid hgs
   clear hgs HGf2 hln HSk HHi HNw HGf HM
   go_wp2
   go_loopw [59] (fun v wr => ∃ (i : Nat) (Lq : List (List UInt8 × Value)), i <= ln /\ v = .int .i64 (i : Nat) /\ GsAt w w.heap.size (nmN A) (mixL A i) (.slice ra ln rc) Lq wr) (fun v _ => ln - (intOf v).toNat)
   case atStart => exact ⟨0, Lq, by omega, rfl, by rw [mix_0]; exact H0.out⟩
   case round =>
    clear H0
    obtain ⟨i, Lq2, hi, rfl, hg2⟩ := hrel
    have hml : (mixL A i).length = ln := by rw [<- HLn.out]; exact mix_len A i (by rw [HLn.out]; exact hi)
    by_cases hlt2 : i < ln
    ·have hil : (i : Int) < (ln : Int) := by omega
     have hig : i < (gaL A).length := by rw [HLn.out]; exact hlt2
     have him : i < (mixL A i).length := by omega
     have hiq : i < Lq2.length := by rw [gs_len hg2]; exact him
     obtain ⟨og, oc, eo, hogB, hogl⟩ := own_block hg2.2.1 (by omega)
     injection eo with eo1 eo2 eo3
     subst eo1 eo3
     clear eo2
     obtain ⟨c0, c1⟩ := gs_cells hg2 i hiq
     have hrow := (hg2.2.2.1.2.1 i hiq him)
     have hst := mix_step A i hig
     rw [mix_at A i hig him] at hrow
     obtain ⟨t, ht⟩ : ∃ x, (gaL A)[i].1 = x := ⟨_, rfl⟩
     obtain ⟨Y, hY⟩ : ∃ x, (gaL A)[i].2 = x := ⟨_, rfl⟩
     have hYn : Y ≠ [] := by rw [<- hY]; exact ga_ne hig
     have hYf := (HFg.out.2 _ (List.getElem_mem hig)).2
     rw [ht, hY] at hrow hst
     rw [hY] at hYf
     obtain ⟨hn1, hown⟩ := hrow
     rw [hn1] at c0
     obtain ⟨vY, hvY⟩ : ∃ x, Lq2[i].2 = x := ⟨_, rfl⟩
     rw [hvY] at c1 hown
     obtain ⟨ya, yc, rfl⟩ := ownsRow_slice hown
     obtain ⟨W2, hW2⟩ : ∃ W2, wr.alloc (.cells #[.string ⟨t.toArray⟩, .slice ya Y.length yc] 45) = W2 := ⟨_, rfl⟩
     have hb2 : Below wr.heap.size wr W2 := by rw [<- hW2]; exact (Below.refl _ wr).alloc (Nat.le_refl _) _
     have y2 : W2.heap[wr.heap.size]? = some (.cells #[.string ⟨t.toArray⟩, .slice ya Y.length yc] 45 (0, 0)) := by rw [<- hW2]; exact heap_alloc_new wr _
     have HO := Lib.hid (once_any Y _ W2 (txR_owns (ownsRow_below hown hb2)) (by omega) (fun x hx => by have := hYf.2 x hx; omega))
     have hOl : 0 < (onL Y).length := by
      rcases Nat.eq_zero_or_pos (onL Y).length with h | h
      ·exact absurd (on_nil.1 (List.eq_nil_of_length_eq_zero h)) hYn
      ·exact h
     have HW2 := Lib.hid hW2
     obtain ⟨i0, i1⟩ := obj2s y2
     rw [<- hW2] at i0 i1
     obtain ⟨yl, hyl⟩ : ∃ x, Y.length = x := ⟨_, rfl⟩
     rw [hyl] at c1 HO HW2 i0 i1 hvY
     obtain ⟨OY, hOY⟩ : ∃ x, onL Y = x := ⟨_, rfl⟩
     rw [hOY] at HO hOl hst
     have H := Lib.hid (And.intro hg2 (And.intro hb2 (And.intro hst (And.intro hn1 (And.intro hvY hOl)))))
     clear hg2 hb2 y2 hW2 hown hYf hYn hst hn1 hvY ht hY hyl hOY hOl hogB hogl him hig
     go_wp2_with fail
     rw [HW2.out]
     refine HO.out.mono ?_
     rintro e w5 ⟨v5, rfl, hr5, hb5⟩
     clear c0 c1 i0 i1
     have hb6 : Below wr.heap.size wr w5 := H.out.2.1.trans (hb5.mono H.out.2.1.size)
     have hg5 := gs_below H.out.1 hb6
     obtain ⟨_, q1, q2⟩ := gs_keep hg5 i hiq (Chg.refl _ w5)
     rw [H.out.2.2.2.2.1] at q1
     obtain ⟨og5, oc5, rfl, h5B, h5l⟩ := own_block hr5 H.out.2.2.2.2.2
     have hrb := ownsRow_base (B' := w.heap.size + 1) hr5 (by have := H.out.1.2.2.2.2; have := H.out.2.1.size; omega)
     have H5 := Lib.hid (gs_step H.out.1 i hiq t H.out.2.2.2.1 OY _ hrb (Chg.ofBelow hb6) (.inr ⟨og5, rfl, by have := H.out.2.1.size; omega⟩))
     clear hg5 hr5 hb5 hb6 hrb h5B h5l
     go_wp2
     refine ⟨⟨i + 1, Lq2.set i (t, Value.slice (some ⟨og5, 0, none⟩) OY.length oc5), by omega, by go_num, ?_⟩, by simp [intOf]; omega⟩
     rw [H.out.2.2.1]
     exact H5.out
    ·obtain rfl : i = ln := by omega
     have hma : mixL A i = gcL A := by rw [<- HLn.out]; exact mix_all A
     have hgl : (gcL A).length = i := by rw [<- hma]; exact hml
     rw [hma] at hg2
     have HSo := Lib.hid (sortat_any wr hg2 (by omega))
     clear hg2 hma hml
     go_wp2_with fail
     refine HSo.out.mono ?_
     rintro en w9 ⟨rfl, Lq', L', hp, hs, hok, hr, hb⟩
     have H := Lib.hid (And.intro hp (And.intro hs (And.intro hok (And.intro hr (And.intro hb hgl)))))
     clear hp hs hok hr hb hgl
     go_wp2
     go_ret
     have e := gc_sorted H.out.1 H.out.2.1
     subst e
     have e2 : (clA A).length = i := by rw [H.out.1.length_eq]; exact H.out.2.2.2.2.2
     have hr := H.out.2.2.2.1
     rw [H.out.2.2.2.2.2] at hr
     exact ⟨_, Lq', rfl, H.out.2.2.1, by rw [e2]; exact ownsRow_base hr (Nat.le_succ _), H.out.2.2.2.2.1⟩
theorem run_clear_k {P : Program} (w : World) (t e ty : TypeId) (z : Value) (ht : P.underlying t = some (.slice e)) (hv : ∀ w, (zeroValue e).run P w = .ok z w) (h1 : ∀ v ∈ (Builtin.zeroCells z.cells 0).toList, True) (b o n c m : Nat) (hn : 0 < n) (us : List Value) (hus : (Builtin.zeroCells z.cells n).toList = us) (hul : us.length = m) (hone : ∀ v ∈ us, v.oneCell' = true)
  (hc : ∀ j, j < m -> (w.cell? ⟨b, o + j, none⟩).isSome = true) (hf : ∀ j, j < m -> w.frozen? ⟨b, o + j, none⟩ = false) :
  (Builtin.clear_ #[t] ty #[.slice (some ⟨b, o, none⟩) n c]).run P w = .ok (.tuple #[]) (w.setCells b o us) := by
 have hst := run_storeCells_cells (P := P) b o us 0 w (by rw [hul]; simpa using hc) (by rw [hul]; simpa using hf) hone
 simp only [Nat.add_zero] at hst
 obtain ⟨m, rfl⟩ : ∃ m, n = m + 1 := ⟨n - 1, by omega⟩
 simp [Builtin.clear_, run_underlying ht, hv, hus, hst]
def zeroAt (n : Nat) : List Value := (Builtin.zeroCells (Value.agg #[.string ByteArray.empty, .slice none 0 0]).cells n).toList
theorem zeroAt_len (n : Nat) : (zeroAt n).length = n * 2 := by
 unfold zeroAt Builtin.zeroCells
 simp [Value.cells]
theorem zeroAt_one (n : Nat) : ∀ v ∈ zeroAt n, v.oneCell' = true := by
 intro v hv
 unfold zeroAt Builtin.zeroCells at hv
 simp [Value.cells] at hv
 obtain ⟨a, _, rfl⟩ := hv
 rcases (show a % 2 = 0 \/ a % 2 = 1 by omega) with h | h <;> simp [h, Value.oneCell']
theorem own_setCells {B e : Nat} {s g m c n : Nat} {xs : List Value} (us : List Value) : ∀ (w : World) (o : Nat), w.ownsRow B e s (.slice (some ⟨g, 0, none⟩) m c) n xs -> n * s <= o -> (w.setCells g o us).ownsRow B e s (.slice (some ⟨g, 0, none⟩) m c) n xs /\ Chg (fun k => k = g) w (w.setCells g o us) := by
 induction us with
 | nil => intro w o h _; exact ⟨h, Chg.refl _ _⟩
 | cons u us ih =>
  intro w o h ho
  have h1 := own_stored h o u
  rw [List.set_eq_of_length_le (by have := h.1; omega)] at h1
  obtain ⟨h2, h3⟩ := ih (w.setCell ⟨g, o, none⟩ u) (o + 1) h1 (by omega)
  have hc : Chg (fun k => k = g) w (w.setCell ⟨g, o, none⟩ u) := (Chg.refl (fun k => k = g) w).setCell (p := ⟨g, o, none⟩) (fun _ => rfl) u
  exact ⟨h2, hc.trans h3 (fun _ _ h => h)⟩
theorem own_prefix {w : World} {B e s g n c : Nat} {xs : List Value} (h : w.ownsRow B e s (.slice (some ⟨g, 0, none⟩) n c) n xs) (i : Nat) (hi : i <= n) : w.ownsRow B e s (.slice (some ⟨g, 0, none⟩) i c) i (xs.take (i * s)) := by
 have hm := Nat.mul_le_mul_right s hi
 refine ⟨by rw [List.length_take, h.1]; omega, ?_⟩
 rcases h.2 with ⟨h', _⟩ | ⟨g', cap', cur, h', hB, hg, hnc, hcm, hcs, ht⟩
 ·cases h'
 ·simp only [Value.slice.injEq, Option.some.injEq, Addr.mk.injEq, and_true, true_and] at h'
  obtain ⟨rfl, rfl⟩ := h'
  refine .inr ⟨g, c, cur, rfl, hB, hg, by omega, hcm, hcs, ?_⟩
  rw [<- ht, List.take_take]
  congr 1
  omega
theorem atcs_set2 (R : List (List UInt8 × Value)) (i : Nat) (hi : i < R.length) (q : List UInt8 × Value) : ((atcs R).set (i * 2) (.string ⟨q.1.toArray⟩)).set (i * 2 + 1) q.2 = atcs (R.set i q) := by
 induction R generalizing i with
 | nil => simp at hi
 | cons c R ih =>
  have e : ∀ c (L : List (List UInt8 × Value)), atcs (c :: L) = .string ⟨c.1.toArray⟩ :: c.2 :: atcs L := fun _ _ => rfl
  cases i with
  | zero => simp only [List.set_cons_zero, e]; rfl
  | succ i =>
   have hi2 : i < R.length := by simpa using hi
   rw [List.set_cons_succ, e, e, show (i + 1) * 2 + 1 = i * 2 + 1 + 1 + 1 by omega, show (i + 1) * 2 = i * 2 + 1 + 1 by omega, List.set_cons_succ, List.set_cons_succ, List.set_cons_succ, List.set_cons_succ, ih i hi2]
theorem atOk_chg {w w' : World} {B n : Nat} {ov : Value} {xs : List Value} {Lq : List (List UInt8 × Value)} {L : List Atr} (h : AtOk w Lq L) (hr : w.ownsRow B 45 2 ov n xs) (hc : Chg (fun k => some k = ov.ownBlock) w w') : AtOk w' Lq L :=
 ⟨h.1, fun i h1 h2 => ⟨(h.2 i h1 h2).1, by
  obtain ⟨_, B2, hB⟩ := h.2 i h1 h2
  exact ⟨B2, ownsRow_chg hB hc (fun k hk e => row_apart hr hB (by decide) k e.symm hk)⟩⟩⟩
theorem atOk_cons {w : World} {q : List UInt8 × Value} {a : Atr} {Lq : List (List UInt8 × Value)} {L : List Atr} : AtOk w (q :: Lq) (a :: L) ↔ (q.1 = a.1 /\ ∃ B, w.ownsRow B 9 1 q.2 a.2.length (sc a.2)) /\ AtOk w Lq L := by
 constructor
 ·rintro ⟨h1, h2⟩
  refine ⟨h2 0 (by simp) (by simp), by simpa using h1, fun i i1 i2 => ?_⟩
  exact h2 (i + 1) (by simpa using i1) (by simpa using i2)
 ·rintro ⟨h0, h1, h2⟩
  refine ⟨by simp [h1], fun i i1 i2 => ?_⟩
  cases i with
  | zero => exact h0
  | succ i => exact h2 i (by simpa using i1) (by simpa using i2)
theorem atOk_filter {w : World} {Lq : List (List UInt8 × Value)} {L : List Atr} (h : AtOk w Lq L) (p : List UInt8 -> Bool) : AtOk w (Lq.filter fun q => !p q.1) (L.filter fun q => !p q.1) := by
 induction Lq generalizing L with
 | nil =>
  have : L = [] := List.eq_nil_of_length_eq_zero h.1.symm
  subst this
  exact atOk_nil w
 | cons q Lq ih =>
  cases L with
  | nil => have := h.1; simp at this
  | cons a L =>
   obtain ⟨h0, h1⟩ := atOk_cons.1 h
   rw [List.filter_cons, List.filter_cons, h0.1]
   split
   ·exact atOk_cons.2 ⟨h0, ih h1⟩
   ·exact ih h1
def IxDel (p : List UInt8 -> Bool) (Lq : List (List UInt8 × Value)) (w : World) (en : Ending) (w' : World) : Prop :=
 ((en = .returned (.int .i64 (-1)) /\ ∀ q ∈ Lq, p q.1 = false) \/ ∃ i : Nat, en = .returned (.int .i64 (i : Nat)) /\ ∃ h : i < Lq.length, p Lq[i].1 = true /\ ∀ q ∈ Lq.take i, p q.1 = false) /\ Below w.heap.size w w'
def DelPost (p : List UInt8 -> Bool) (Lq : List (List UInt8 × Value)) (B : Nat) (ov : Value) (w : World) (en : Ending) (w' : World) : Prop :=
 ∃ v, en = .returned v /\ w'.ownsRow B 45 2 v (Lq.filter fun q => !p q.1).length (atcs (Lq.filter fun q => !p q.1)) /\ Chg (fun k => some k = ov.ownBlock) w w'
def DelAt (p : List UInt8 -> Bool) (Lq R : List (List UInt8 × Value)) (i j : Nat) : Prop := R.length = Lq.length /\ R.take i = (Lq.take j).filter (fun q => !p q.1) /\ R.drop j = Lq.drop j /\ i < j /\ j <= Lq.length
theorem delAt_start {p : List UInt8 -> Bool} {Lq : List (List UInt8 × Value)} {i : Nat} (hi : i < Lq.length) (hp : p Lq[i].1 = true) (ha : ∀ q ∈ Lq.take i, p q.1 = false) : DelAt p Lq Lq i (i + 1) := by
 refine ⟨rfl, ?_, rfl, by omega, hi⟩
 rw [List.take_succ_eq_append_getElem hi, List.filter_append]
 have e1 : (Lq.take i).filter (fun q => !p q.1) = Lq.take i := List.filter_eq_self.2 fun q hq => by simp [ha q hq]
 rw [e1]
 simp [hp]
theorem delAt_at {p : List UInt8 -> Bool} {Lq R : List (List UInt8 × Value)} {i j : Nat} (h : DelAt p Lq R i j) (hj : j < Lq.length) : ∃ h1 : j < R.length, R[j] = Lq[j] := by
 have h1 : j < R.length := by rw [h.1]; exact hj
 refine ⟨h1, ?_⟩
 have h2 := congrArg (fun l => l[0]?) h.2.2.1
 simp only [List.getElem?_drop, Nat.add_zero, List.getElem?_eq_getElem h1, List.getElem?_eq_getElem hj, Option.some.injEq] at h2
 exact h2
theorem delAt_skip {p : List UInt8 -> Bool} {Lq R : List (List UInt8 × Value)} {i j : Nat} (h : DelAt p Lq R i j) (hj : j < Lq.length) (hp : p Lq[j].1 = true) : DelAt p Lq R i (j + 1) := by
 obtain ⟨h1, h2, h3, h4, h5⟩ := h
 refine ⟨h1, ?_, ?_, by omega, hj⟩
 ·rw [h2, List.take_succ_eq_append_getElem hj, List.filter_append]
  simp [hp]
 ·have := congrArg (List.drop 1) h3
  rw [List.drop_drop, List.drop_drop] at this
  exact this
theorem delAt_keep {p : List UInt8 -> Bool} {Lq R : List (List UInt8 × Value)} {i j : Nat} (h : DelAt p Lq R i j) (hj : j < Lq.length) (hp : p Lq[j].1 = false) : DelAt p Lq (R.set i Lq[j]) (i + 1) (j + 1) := by
 obtain ⟨h1, h2, h3, h4, h5⟩ := h
 have hi : i < (R.set i Lq[j]).length := by rw [List.length_set]; omega
 refine ⟨by rw [List.length_set]; exact h1, ?_, ?_, by omega, hj⟩
 ·rw [List.take_succ_eq_append_getElem hi, List.getElem_set_self, List.take_set_of_le (Nat.le_refl _), h2, List.take_succ_eq_append_getElem hj, List.filter_append]
  simp [hp]
 ·rw [List.drop_set_of_lt (by omega)]
  have := congrArg (List.drop 1) h3
  rw [List.drop_drop, List.drop_drop] at this
  exact this
theorem delAt_end {p : List UInt8 -> Bool} {Lq R : List (List UInt8 × Value)} {i : Nat} (h : DelAt p Lq R i Lq.length) : R.take i = Lq.filter (fun q => !p q.1) /\ i = (Lq.filter (fun q => !p q.1)).length /\ i < R.length := by
 obtain ⟨h1, h2, h3, h4, h5⟩ := h
 rw [List.take_length] at h2
 refine ⟨h2, ?_, by omega⟩
 rw [<- h2, List.length_take]
 omega
theorem atOk_slice {w : World} {Lq : List (List UInt8 × Value)} {L : List Atr} (h : AtOk w Lq L) (hl : ∀ a ∈ L, a.1.length <= 140737488355328) : ∀ q ∈ Lq, q.1.length <= 140737488355328 /\ ∃ a n c, q.2 = .slice a n c := by
 intro q hq
 obtain ⟨i, hi, rfl⟩ := List.mem_iff_getElem.1 hq
 have hi2 : i < L.length := by rw [<- h.1]; exact hi
 obtain ⟨e1, B, hB⟩ := h.2 i hi hi2
 obtain ⟨a, c, e⟩ := ownsRow_slice hB
 exact ⟨by rw [e1]; exact hl _ (List.getElem_mem hi2), a, _, c, e⟩
theorem ixnilW (p : List UInt8 -> Bool) (cap : Value) (w : World) : Calls Tryz.prog 183 #[.slice none 0 0, .func (.func 134) #[] #[cap]] w (fun en w' => en = .returned (.int .i64 (-1)) /\ w = w') := by
 go_enter Tryz.func183, Tryz.ntmps183
 go_wp2
 go_loop [8] (fun v => v = .int .i64 (0 : Nat)) (fun v => 0)
 case atStart => rfl
 case round =>
  obtain rfl := hrel
  go_wp2
  go_ret
  exact ⟨rfl, rfl⟩
def ClW (p : List UInt8 -> Bool) (ov cap : Value) (w : World) : Prop := ∀ (W : World) (t : List UInt8) (a : Option Addr) (n c : Nat), t.length <= 140737488355328 -> Chg (fun k => some k = ov.ownBlock) w W -> Calls Tryz.prog 134 #[.agg #[.string ⟨t.toArray⟩, .slice a n c], cap] W (BB (p t) W)
theorem ixdelW_any (p : List UInt8 -> Bool) (Lq : List (List UInt8 × Value)) (B g c : Nat) (w : World) (cap : Value) (hr : w.ownsRow B 45 2 (.slice (some ⟨g, 0, none⟩) Lq.length c) Lq.length (atcs Lq)) (hs : ∀ q ∈ Lq, q.1.length <= 140737488355328 /\ ∃ a n c, q.2 = .slice a n c) (hcl : ClW p (.slice (some ⟨g, 0, none⟩) Lq.length c) cap w) (hl : Lq.length <= 1000000) :
  Calls Tryz.prog 183 #[.slice (some ⟨g, 0, none⟩) Lq.length c, .func (.func 134) #[] #[cap]] w (IxDel p Lq w) := by
 have HC := Lib.hid (fun (W : World) (hb : Below w.heap.size w W) t a n c' hql => hcl W t a n c' hql (Chg.ofBelow hb))
 have HR := Lib.hid hr
 have HS := Lib.hid hs
 have hgl := (hr.lt g rfl).2
 obtain ⟨n, hn⟩ : ∃ n, Lq.length = n := ⟨_, rfl⟩
 have HL := Lib.hid hn
 rw [hn] at hl ⊢
 clear hr hs hcl hn
 go_enter Tryz.func183, Tryz.ntmps183
 go_wp2
 go_loopw [8] (fun v wr => ∃ k : Nat, k <= n /\ v = .int .i64 (k : Nat) /\ Below w.heap.size w wr /\ ∀ q ∈ Lq.take k, p q.1 = false) (fun v _ => n - (intOf v).toNat)
 case atStart => exact ⟨0, by omega, rfl, Below.refl _ _, fun q hq => by simp at hq⟩
 case round =>
  obtain ⟨k, hk, rfl, hb, hall⟩ := hrel
  by_cases hlt : k < n
  ·have hkl : (k : Int) < (n : Int) := by omega
   have hkm : k < Lq.length := by rw [HL.out]; exact hlt
   obtain ⟨h1, h2⟩ := atcs_at Lq k hkm
   have c0 := (hb.cell (p := ⟨g, k * 2, none⟩) hgl).trans ((HR.out.cellAt _ (by omega)).trans h1)
   have c1 := (hb.cell (p := ⟨g, k * 2 + 1, none⟩) hgl).trans ((HR.out.cellAt _ (by omega)).trans h2)
   obtain ⟨hql, qa, qn, qc, hq⟩ := HS.out _ (List.getElem_mem hkm)
   rw [hq] at c1
   obtain ⟨t, ht⟩ : ∃ x, Lq[k].1 = x := ⟨_, rfl⟩
   rw [ht] at c0 hql
   have HCk := Lib.hid (HC.out wr hb t qa qn qc hql)
   cases hp : p t with
   | true =>
    rw [hp] at HCk
    have H := Lib.hid (And.intro hb (And.intro hall (show p Lq[k].1 = true by rw [ht]; exact hp)))
    clear hb hall h1 h2 hq ht hp
    go_wp2_with fail
    refine HCk.out.mono ?_
    rintro e w5 ⟨rfl, hb5⟩
    have H5 := Lib.hid hb5
    clear hb5 c0 c1
    go_wp2
    go_ret
    exact ⟨.inr ⟨k, rfl, hkm, H.out.2.2, H.out.2.1⟩, H.out.1.trans (H5.out.mono H.out.1.size)⟩
   | false =>
    rw [hp] at HCk
    have H := Lib.hid (And.intro hb (show ∀ q ∈ Lq.take (k + 1), p q.1 = false from mem_take_snoc hkm hall (by rw [ht]; exact hp)))
    clear hb hall h1 h2 hq ht hp
    go_wp2_with fail
    refine HCk.out.mono ?_
    rintro e w5 ⟨rfl, hb5⟩
    have H5 := Lib.hid hb5
    clear hb5 c0 c1
    go_wp2
    exact ⟨⟨k + 1, by omega, by go_num, H.out.1.trans (H5.out.mono H.out.1.size), H.out.2⟩, by simp [intOf]; omega⟩
  ·obtain rfl : k = n := by omega
   have H := Lib.hid (And.intro hb (show ∀ q ∈ Lq, p q.1 = false by rw [<- HL.out, List.take_length] at hall; exact hall))
   clear hb hall
   go_wp2
   go_ret
   exact ⟨.inl ⟨rfl, H.out.2⟩, H.out.1⟩
theorem delW_some (p : List UInt8 -> Bool) (Lq : List (List UInt8 × Value)) (B g c : Nat) (w : World) (cap : Value) (hr : w.ownsRow B 45 2 (.slice (some ⟨g, 0, none⟩) Lq.length c) Lq.length (atcs Lq)) (hs : ∀ q ∈ Lq, q.1.length <= 140737488355328 /\ ∃ a n c, q.2 = .slice a n c) (hcl : ClW p (.slice (some ⟨g, 0, none⟩) Lq.length c) cap w) (hl : Lq.length <= 1000000) :
  Calls Tryz.prog 133 #[.slice (some ⟨g, 0, none⟩) Lq.length c, .func (.func 134) #[] #[cap]] w (DelPost p Lq B (.slice (some ⟨g, 0, none⟩) Lq.length c) w) := by
 have HX := Lib.hid (ixdelW_any p Lq B g c w cap hr hs hcl hl)
 have HC := Lib.hid hcl
 have HR := Lib.hid hr
 have HS := Lib.hid hs
 have hgl := (hr.lt g rfl).2
 have hnc : Lq.length <= c /\ c <= maxLen := by
  rcases hr.2 with ⟨h', _⟩ | ⟨g', cap', cur, h', hB, hg, hnc, hcm, hcs, ht⟩
  ·cases h'
  ·simp only [Value.slice.injEq, Option.some.injEq, Addr.mk.injEq, and_true, true_and] at h'
   obtain ⟨rfl, rfl⟩ := h'
   exact ⟨hnc, hcm⟩
 obtain ⟨hnc1, hnc2⟩ := hnc
 obtain ⟨n, hn⟩ : ∃ n, Lq.length = n := ⟨_, rfl⟩
 have HL := Lib.hid hn
 rw [hn] at hl HX hnc1 ⊢
 clear hr hs hcl hn
 go_enter Tryz.func133, Tryz.ntmps133
 go_wp2_with fail
 refine HX.out.mono ?_
 rintro e w1 ⟨hx, hb1⟩
 have HB1 := Lib.hid hb1
 clear hb1
 rcases hx with ⟨rfl, hno⟩ | ⟨i0, rfl, hi0, hp0, ha0⟩
 ·have H := Lib.hid hno
  clear hno
  go_wp2
  go_ret
  refine ⟨_, rfl, ?_, Chg.ofBelow HB1.out⟩
  have e : (Lq.filter fun q => !p q.1) = Lq := List.filter_eq_self.2 fun q hq => by simp [H.out q hq]
  rw [e, HL.out]
  have := ownsRow_below HR.out HB1.out
  rw [HL.out] at this
  exact this
 ·have hi0n : i0 < n := by rw [<- HL.out]; exact hi0
  have hi0l : (i0 : Int) ≠ -1 := by omega
  have HD0 := Lib.hid (delAt_start hi0 hp0 ha0)
  have hz : ((i0 : Int) == -1) = false := by rw [beq_eq_false_iff_ne]; omega
  clear hp0 ha0
  go_wp2
  go_loopw [5, 6] (fun v5 v6 wr => ∃ (i j : Nat) (R : List (List UInt8 × Value)), j <= n /\ v5 = .int .i64 (i : Nat) /\ v6 = .int .i64 (j : Nat) /\ i < j /\ DelAt p Lq R i j /\ wr.ownsRow B 45 2 (.slice (some ⟨g, 0, none⟩) n c) n (atcs R) /\ Chg (fun k => some k = (Value.slice (some ⟨g, 0, none⟩) n c).ownBlock) w wr) (fun _ v _ => n - (intOf v).toNat)
  case atStart => exact ⟨i0, i0 + 1, Lq, by omega, rfl, by go_num, by omega, HD0.out, by have := ownsRow_below HR.out HB1.out; rw [HL.out] at this; exact this, Chg.ofBelow HB1.out⟩
  case round =>
   clear HX HD0 hz hi0l
   obtain ⟨i, j, R, hj, rfl, rfl, hij, hD, hrow, hch⟩ := hrel
   by_cases hlt : j < n
   ·have hjl : (j : Int) < (n : Int) := by omega
    have hil : (i : Int) < (n : Int) := by omega
    have hjm : j < Lq.length := by rw [HL.out]; exact hlt
    obtain ⟨hjR, ejR⟩ := delAt_at hD hjm
    obtain ⟨h1, h2⟩ := atcs_at R j hjR
    rw [ejR] at h1 h2
    have c0 := (hrow.cellAt (j * 2) (by omega)).trans h1
    have c1 := (hrow.cellAt (j * 2 + 1) (by omega)).trans h2
    obtain ⟨hql, qa, qn, qc, hq⟩ := HS.out _ (List.getElem_mem hjm)
    have hDs := delAt_skip hD hjm
    have hDk := delAt_keep hD hjm
    obtain ⟨q, hqe⟩ : ∃ x, Lq[j] = x := ⟨_, rfl⟩
    rw [hqe] at hq hql c0 c1 hDs hDk
    obtain ⟨t, qv⟩ := q
    simp only [] at hq hql c0 c1 hDs hDk
    subst hq
    have hgr := (hrow.lt g rfl).2
    obtain ⟨W2, hW2⟩ : ∃ W2, wr.alloc (.cells #[.string ⟨t.toArray⟩, .slice qa qn qc] 45) = W2 := ⟨_, rfl⟩
    have hb2 : Below wr.heap.size wr W2 := by rw [<- hW2]; exact (Below.refl _ wr).alloc (Nat.le_refl _) _
    have y2 : W2.heap[wr.heap.size]? = some (.cells #[.string ⟨t.toArray⟩, .slice qa qn qc] 45 (0, 0)) := by rw [<- hW2]; exact heap_alloc_new wr _
    have hch2 := hch.below (hb2.mono hch.size)
    have HCk := Lib.hid (HC.out W2 t qa qn qc hql (by rw [HL.out]; exact hch2.mono (fun _ _ h => h)))
    have HW2 := Lib.hid hW2
    obtain ⟨i0', i1'⟩ := obj2s y2
    rw [<- hW2] at i0' i1'
    cases hp : p t with
    | true =>
     rw [hp] at HCk
     have H := Lib.hid (And.intro hrow (And.intro hch (And.intro hb2 (hDs hp))))
     clear hrow hch hb2 hDs hDk hD h1 h2 hqe hch2 y2 hW2 ejR hp
     go_wp2_with fail
     rw [HW2.out]
     refine HCk.out.mono ?_
     rintro e w5 ⟨rfl, hb5⟩
     have H5 := Lib.hid (H.out.2.2.1.trans (hb5.mono H.out.2.2.1.size))
     clear hb5 c0 c1 i0' i1'
     go_wp2
     exact ⟨⟨i, j + 1, R, by omega, rfl, by go_num, by omega, H.out.2.2.2, ownsRow_below H.out.1 H5.out, H.out.2.1.below (H5.out.mono H.out.2.1.size)⟩, by simp [intOf]; omega⟩
    | false =>
     rw [hp] at HCk
     have H := Lib.hid (And.intro hrow (And.intro hch (And.intro hb2 (And.intro (hDk hp) (And.intro hD y2)))))
     clear hrow hch hb2 hDs hDk hD h1 h2 hqe hch2 hW2 ejR hp y2
     go_wp2_with fail
     rw [HW2.out]
     refine HCk.out.mono ?_
     rintro e w5 ⟨rfl, hb5⟩
     clear c0 c1 i0' i1'
     have hb6 := H.out.2.2.1.trans (hb5.mono H.out.2.2.1.size)
     have hr5 := ownsRow_below H.out.1 hb6
     have y5 := obj_below H.out.2.2.2.2.2 hb5 (obj_lt H.out.2.2.2.2.2)
     obtain ⟨j0, j1⟩ := obj2s y5
     have hiR : i < R.length := by rw [H.out.2.2.2.2.1.1, HL.out]; omega
     obtain ⟨r1, r2⟩ := atcs_at R i hiR
     have s0 := (hr5.cellAt (i * 2) (by omega)).trans r1
     have s1 := (hr5.cellAt (i * 2 + 1) (by omega)).trans r2
     have f0 := hr5.frozenAt (i * 2)
     have f1 := hr5.frozenAt (i * 2 + 1)
     have hst := own_stored (own_stored hr5 (i * 2) (.string ⟨t.toArray⟩)) (i * 2 + 1) (.slice qa qn qc)
     rw [show (Value.slice qa qn qc) = (t, Value.slice qa qn qc).2 from rfl, show (Value.string ⟨t.toArray⟩) = .string ⟨(t, Value.slice qa qn qc).1.toArray⟩ from rfl, atcs_set2 R i hiR] at hst
     have hc5 := H.out.2.1.below (hb6.mono H.out.2.1.size)
     have hc6 : Chg (fun k => some k = (Value.slice (some ⟨g, 0, none⟩) n c).ownBlock) w ((w5.setCell ⟨g, i * 2, none⟩ (.string ⟨t.toArray⟩)).setCell ⟨g, i * 2 + 1, none⟩ (.slice qa qn qc)) := (hc5.setCell (p := ⟨g, i * 2, none⟩) (fun _ => rfl) _).setCell (p := ⟨g, i * 2 + 1, none⟩) (fun _ => rfl) _
     have H5 := Lib.hid (And.intro hst hc6)
     clear hb5 hb6 hr5 y5 r1 r2 hst hc5 hc6
     go_wp2
     exact ⟨⟨i + 1, j + 1, R.set i (t, .slice qa qn qc), by omega, by go_num, by go_num, by omega, H.out.2.2.2.1, H5.out.1, H5.out.2⟩, by simp [intOf]; omega⟩
   ·obtain rfl : j = n := by omega
    have hD2 : DelAt p Lq R i Lq.length := by rw [HL.out]; exact hD
    obtain ⟨e1, e2, e3⟩ := delAt_end hD2
    have hRl : R.length = j := by rw [hD.1, HL.out]
    have hij2 : (i : Int) <= (j : Int) := by omega
    have hjc : (j : Int) <= (c : Int) := by omega
    have hic : (i : Int) <= (c : Int) := by omega
    have hclr : ∀ ty, (Builtin.clear_ #[22] ty #[.slice (some ⟨g, i * 2, none⟩) (j - i) (c - i)]).run Tryz.prog wr = .ok (.tuple #[]) (wr.setCells g (i * 2) (zeroAt (j - i))) := fun ty => by
     refine run_clear_k wr _ 45 ty (.agg #[.string ByteArray.empty, .slice none 0 0]) Tryz.underlying22 Tryz.zeroValue45 (fun _ _ => trivial) g (i * 2) (j - i) (c - i) ((j - i) * 2) (by omega) (zeroAt (j - i)) rfl (zeroAt_len _) (zeroAt_one _) (fun q hq => ?_) (fun q hq => hrow.frozenAt _)
     rw [hrow.cellAt _ (by omega), List.getElem?_eq_getElem (by rw [atcs_len]; omega)]
     rfl
    have hpre := own_prefix hrow i (by omega)
    rw [<- atcs_take, e1] at hpre
    obtain ⟨k1, k2⟩ := own_setCells (zeroAt (j - i)) wr (i * 2) hpre (Nat.le_refl _)
    have H := Lib.hid (And.intro k1 (And.intro (hch.trans (k2.mono (fun k _ h => (by show some k = some g; rw [h]))) (fun _ _ h => h)) e2))
    clear hpre k1 k2 hrow hch hD hD2 e1 e2 e3
    go_wp2
    go_ret
    refine ⟨_, rfl, ?_, H.out.2.1⟩
    rw [<- H.out.2.2]
    exact H.out.1
theorem delW_any (p : List UInt8 -> Bool) (Lq : List (List UInt8 × Value)) (n B : Nat) (ov : Value) (w : World) (cap : Value) (hr : w.ownsRow B 45 2 ov n (atcs Lq)) (hs : ∀ q ∈ Lq, q.1.length <= 140737488355328 /\ ∃ a n c, q.2 = .slice a n c) (hcl : ClW p ov cap w) (hl : n <= 1000000) :
  Calls Tryz.prog 133 #[ov, .func (.func 134) #[] #[cap]] w (DelPost p Lq B ov w) := by
 have hn : Lq.length = n := by have := hr.1; rw [atcs_len] at this; omega
 subst hn
 rcases hr.2 with ⟨rfl, h0⟩ | ⟨g, c, cur, rfl, _⟩
 ·have e : Lq = [] := List.eq_nil_of_length_eq_zero h0
  subst e
  have HX := Lib.hid (ixnilW p cap w)
  clear hr hs hcl hl h0
  go_enter Tryz.func133, Tryz.ntmps133
  go_wp2_with fail
  refine HX.out.mono ?_
  rintro e w1 ⟨rfl, hw⟩
  obtain rfl := hw.symm
  go_wp2
  go_ret
  exact ⟨_, rfl, World.ownsRow_nil _ _ _ _, Chg.refl _ _⟩
 ·exact delW_some p Lq B g c w cap hr hs hcl hl
end Go.Proofs.YtpkbgkoocijegaaGreatDoor
