/- Two texts compared; two pairs compared by their types; the bits of a length. A row sorted by its types. The normal form of a name's text, for all texts. -/
import Derived.Test.YtpkbgkoocijegaaGreatDoorDqB
import Derived.Test.YtpkbgkoocijegaaGreatDoorDqG
import Derived.Test.YtpkbgkoocijegaaGreatDoorLaysA
import Derived.Sort.Grow
import Derived.Shelf.SlSortCmp.SmallK
import Derived.Test.YtpkbgkoocijegaaGreatDoorDqC
set_option linter.unusedVariables false
set_option linter.unusedSimpArgs false
set_option maxHeartbeats 25600000
set_option maxRecDepth 100000
namespace Go.Proofs.YtpkbgkoocijegaaGreatDoor
open Go Go.RowKit Go.Proofs.BerK Go.Proofs.MemK Go.Proofs.UtfK
def cmpB (a b : ByteArray) : Int := if Op.bytesLess a.toList b.toList = true then -1 else if (a.toList == b.toList) = true then 0 else 1
def cmpA (x y : Av) : Int := cmpB ⟨x.1.toArray⟩ ⟨y.1.toArray⟩
def encA (p : Av) : List Value := [.string ⟨p.1.toArray⟩, .string ⟨p.2.toArray⟩]
theorem dnan_any (a : ByteArray) (w : World) : Calls Tryz.prog 248 #[.string a] w fun e w' => e = .returned (.bool false) /\ w' = w := by
 go_enter Tryz.func248, Tryz.ntmps248
 go_wp2
 go_ret
 exact ⟨by simp, rfl⟩
theorem dcmp_any (a b : ByteArray) (w : World) : Calls Tryz.prog 223 #[.string a, .string b] w fun e w' => e = .returned (.int .i64 (cmpB a b)) /\ w' = w := by
 have hn := fun x W => dnan_any x W
 unfold cmpB
 cases h1 : Op.bytesLess a.toList b.toList <;> cases h2 : (a.toList == b.toList) <;>
 ·have h3 : (!(a.toList == b.toList)) = _ := congrArg not h2
  simp only [Bool.not_false, Bool.not_true] at h3
  go_enter Tryz.func223, Tryz.ntmps223
  go_wp2_with (go_at_call 248; refine (hn _ _).mono ?_; rintro e w' ⟨rfl, rfl⟩)
  go_ret
  exact ⟨rfl, rfl⟩
theorem dless_any (x y : Av) (W : World) : Calls Tryz.prog 222 #[.agg #[.string ⟨x.1.toArray⟩, .string ⟨x.2.toArray⟩], .agg #[.string ⟨y.1.toArray⟩, .string ⟨y.2.toArray⟩]] W fun e w' => e = .returned (.int .i64 (cmpA x y)) /\ ∃ q os', w' = Go.Sort.grow (W.drewN q) os' := by
 have hcon := fun W' => dcmp_any ⟨x.1.toArray⟩ ⟨y.1.toArray⟩ W'
 change ∀ W', Calls Tryz.prog _ _ W' fun e w' => e = .returned (.int .i64 (cmpA x y)) /\ w' = W' at hcon
 generalize cmpA x y = r at hcon ⊢
 go_enter Tryz.func222, Tryz.ntmps222
 go_wp2_with (go_at_call 223; refine (hcon _).mono ?_; rintro e w' ⟨rfl, rfl⟩)
 go_ret
 exact ⟨rfl, 0, _, by rw [Go.Sort.alloc_eq_grow, Go.Sort.alloc_eq_grow, Go.Sort.grow_grow]; rfl⟩
theorem dbits_any (n : Nat) (W : World) (h : n <= 12) : Calls Tryz.prog 178 #[.int .u64 n] W fun e w' => (∃ l : Int, e = .returned (.int .i64 l)) /\ w' = W :=
 (Any.bits_Len Tryz.bitsLen6 n W (by omega) (by omega)).mono fun _ _ ⟨he, hw⟩ => ⟨⟨_, he⟩, hw⟩
end Go.Proofs.YtpkbgkoocijegaaGreatDoor
namespace Go.Proofs.YtpkbgkoocijegaaGreatDoor
open Go Go.RowKit Go.Proofs.BerK Go.Proofs.MemK Go.Proofs.UtfK
open Go.Sort hiding Below
theorem flat_avc (r : List Av) : flatK encA 2 r.toArray = (avc r).toArray := by
 apply Array.ext_getElem?
 intro t
 by_cases ht : t < r.length * 2
 ·have h1 : t < (flatK encA 2 r.toArray).size := by rw [size_flatK]; simpa using ht
  have hlt : t / 2 < r.length := by omega
  have h2 := get_flatK encA 2 r.toArray t (by simpa using ht)
  rw [getElem!_pos (flatK encA 2 r.toArray) t h1] at h2
  rw [Array.getElem?_eq_getElem h1, h2, List.getElem?_toArray]
  have e : (r.toArray)[t / 2]! = r[t / 2] := by
   rw [getElem!_pos r.toArray (t / 2) (by simpa using hlt)]; simp
  rw [e]
  obtain ⟨a1, a2⟩ := avc_at r (t / 2) hlt
  rcases (show t % 2 = 0 \/ t % 2 = 1 by omega) with h | h
  ·rw [show t / 2 * 2 = t by omega] at a1
   rw [a1, h]; rfl
  ·rw [show t / 2 * 2 + 1 = t by omega] at a2
   rw [a2, h]; rfl
 ·rw [Array.getElem?_eq_none (by rw [size_flatK]; simpa using ht), List.getElem?_toArray, List.getElem?_eq_none (by rw [avc_len]; omega)]
def srtR (r : List Av) : List Av := (Go.Sort.insertionSort (ltOf cmpA) r.toArray 0 r.length).toList
theorem insI_size {α : Type} [Inhabited α] (lt : α -> α -> Bool) (a : Nat) : ∀ (j : Nat) (d : Array α), (insInner lt a j d).size = d.size
 | 0, d => rfl
 | j + 1, d => by
  rw [insInner]
  split
  ·rw [insI_size lt a j, size_swp]
  ·rfl
theorem insO_size {α : Type} [Inhabited α] (lt : α -> α -> Bool) (a b : Nat) : ∀ (n i : Nat) (d : Array α), b - i = n -> (insOuter lt a b i d).size = d.size := by
 intro n
 induction n with
 | zero => intro i d h; rw [insOuter, if_neg (by omega)]
 | succ n ih => intro i d h; rw [insOuter, if_pos (by omega), ih (i + 1) _ (by omega), insI_size]
theorem srtR_len (r : List Av) : (srtR r).length = r.length := by
 unfold srtR Go.Sort.insertionSort
 rw [Array.length_toList, insO_size _ _ _ _ _ _ rfl]; simp
theorem putRow_obj {w : World} {b : Nat} {c F : Array Value} {e : TypeId} {fr : Nat × Nat} (h : w.heap[b]? = some (.cells c e fr)) (hs : F.size = c.size) : (putRow id w b 0 F).heap[b]? = some (.cells F e fr) := by
 have hF : putCells id 0 F c = F := by
  apply Array.ext_getElem?
  intro t
  unfold putCells
  rw [Array.getElem?_mapIdx]
  by_cases ht : t < c.size
  ·rw [Array.getElem?_eq_getElem ht, Option.map_some, if_pos ⟨Nat.zero_le _, by omega⟩, Array.getElem?_eq_getElem (by omega : t < F.size)]
   simp only [id, Nat.sub_zero]
   rw [getElem!_pos F t (by omega)]
  ·rw [Array.getElem?_eq_none (by omega), Array.getElem?_eq_none (by omega : F.size <= t)]; rfl
 unfold putRow mapBlock
 simp [Array.getElem?_modify, h, onCells, hF]
theorem putRow_other {w : World} {b : Nat} {F : Array Value} (k : Nat) (hk : k ≠ b) : (putRow id w b 0 F).heap[k]? = w.heap[k]? := by
 unfold putRow mapBlock
 simp [Array.getElem?_modify, Ne.symm hk]
theorem blk_sorted {w : World} {B g : Nat} {gs : List Nat} {D : List (List Av)} {m : Nat} {e1 e2 : TypeId} (h : DnBlk w B g gs D m e1 e2) (k : Nat) (hk : k < gs.length) (hk' : k < D.length) (r : List Av) (hr : r.length = D[k].length) (n : Nat) (os : Array Obj) :
  DnBlk (sortWorldK encA 2 w gs[k] 0 n r.toArray os) B g gs (D.set k r) m e1 e2 /\ Go.RowKit.Below B w (sortWorldK encA 2 w gs[k] 0 n r.toArray os) := by
 obtain ⟨a, b, c⟩ := h.rows k hk hk'
 have hold : ∀ j, j < w.heap.size -> (sortWorldK encA 2 w gs[k] 0 n r.toArray os).heap[j]? = (putRow id (Go.Sort.ahead w n) gs[k] 0 (avc r).toArray).heap[j]? := by
  intro j hj
  unfold sortWorldK putRowK
  rw [heap_grow_old _ _ (by simpa using hj), flat_avc]
 have hoth : ∀ j, j < w.heap.size -> j ≠ gs[k] -> (sortWorldK encA 2 w gs[k] 0 n r.toArray os).heap[j]? = w.heap[j]? := fun j hj hne => by
  rw [hold j hj, putRow_other j hne]; rfl
 refine ⟨⟨h.base, by simp [h.len], ?_, ?_, h.nodup⟩, ?_⟩
 ·rw [ovc_set gs D k _ hk' hr, hoth g (obj_lt h.outer) (fun e => b e.symm)]; exact h.outer
 ·intro i hi hi'
  have hi2 : i < D.length := by simpa using hi'
  obtain ⟨a', b', c'⟩ := h.rows i hi hi2
  refine ⟨a', b', ?_⟩
  by_cases hik : i = k
  ·subst hik
   have e : (D.set i r)[i]'hi' = r := by simp
   rw [e, hold _ (obj_lt c')]
   exact putRow_obj (w := Go.Sort.ahead w n) c' (by rw [List.size_toArray, List.size_toArray, avc_len, avc_len, hr])
  ·have e : (D.set k r)[i]'hi' = D[i] := List.getElem_set_ne (fun e => hik e.symm) _
   have hne : gs[i] ≠ gs[k] := fun e => hik ((List.getElem_inj h.nodup).1 e)
   rw [e, hoth _ (obj_lt c') hne]; exact c'
 ·have hkl := obj_lt c
  refine ⟨rfl, rfl, rfl, ?_, fun j hj => ?_⟩
  ·unfold sortWorldK putRowK; simp
  ·exact hoth j (by omega) (by omega)
theorem wrap_len (q : Nat) (h : q <= 12) : IntKind.u64.wrap (q : Int) = (q : Int) := by simp [IntKind.wrap, IntKind.signed, IntKind.bits]; omega
theorem dsort_any (w : World) {B g : Nat} {gs : List Nat} {D : List (List Av)} {m : Nat} {e1 e2 : TypeId} (h : DnBlk w B g gs D m e1 e2) (k : Nat) (hk : k < gs.length) (hk' : k < D.length) (h12 : D[k].length <= 12) :
  Calls Tryz.prog 221 #[rowV gs[k] D[k].length, .func (.func 222) #[] #[]] w fun e w' => e = .returned (.tuple #[]) /\ DnBlk w' B g gs (D.set k (srtR D[k])) m e1 e2 /\ Go.RowKit.Below B w w' := by
 have eg : ∀ args w, (callFunc 222 args).run Tryz.prog w = .ok (.enter 222 args) w := enters_of Tryz.func222 (by kernel_rfl) rfl
 obtain ⟨a, b, c⟩ := h.rows k hk hk'
 have hH : HoldsK encA 2 w gs[k] 0 D[k].toArray := by
  intro j hj
  rw [flat_avc] at hj ⊢
  have hj' : j < (avc D[k]).length := by simpa using hj
  refine ⟨?_, ?_⟩
  ·rw [Nat.zero_add]
   refine obj_cell c j _ ?_
   rw [Array.getElem?_eq_getElem hj, getElem!_pos _ j hj]; rfl
  ·rw [Nat.zero_add]; exact obj_free c j
 have hcon := fun lim => AnyQ.pdqsortCmpFunc_small Tryz.sortRow6 2 Tryz.isAgg97 Tryz.sizeOf97 encA (fun _ => rfl) (fun x v hv => by simp [encA] at hv; rcases hv with rfl | rfl <;> rfl) cmpA 222 #[] gs[k] 0 D[k].length 0 D[k].toArray.size lim D[k].toArray w eg (fun _ _ _ _ x y => dless_any x y _) hH (obj_lt c) (Nat.zero_le _) (Nat.le_refl _) (by rw [List.size_toArray]; omega) (by rw [List.size_toArray]; omega)
 change ∀ lim : Int, Calls Tryz.prog 247 #[.slice (some ⟨gs[k], 0, none⟩) D[k].length D[k].length, .int .i64 0, .int .i64 (D[k].length : Nat), .int .i64 lim, .func (.func 222) #[] #[]] w _ at hcon
 have HC := Lib.hid hcon
 have hlen := dbits_any D[k].length w h12
 have HL := Lib.hid hlen
 have HD := Lib.hid h
 have hlw : IntKind.u64.wrap (D[k].length : Int) = (D[k].length : Int) := wrap_len _ h12
 unfold rowV
 clear hcon hlen hH a b c eg h
 go_enter Tryz.func221, Tryz.ntmps221
 go_wp2_with (first | (go_at_call 178; refine HL.out.mono ?_; rintro e w' ⟨⟨l, rfl⟩, rfl⟩) | (go_at_call 247; refine (HC.out _).mono ?_; rintro e w' ⟨rfl, n, os, rfl⟩))
 go_end0
 refine ⟨rfl, ?_⟩
 have := blk_sorted HD.out k hk hk' (srtR D[k]) (srtR_len _) n os
 have e : (srtR D[k]).toArray = Go.Sort.insertionSort (ltOf cmpA) D[k].toArray 0 D[k].toArray.size := by unfold srtR; rw [List.size_toArray, Array.toArray_toList]
 rw [e] at this
 exact this
end Go.Proofs.YtpkbgkoocijegaaGreatDoor
namespace Go.Proofs.YtpkbgkoocijegaaGreatDoor
open Go Go.RowKit Go.Proofs.BerK Go.Proofs.MemK Go.Proofs.UtfK
def nmA (p : Av) : Av := (lowL p.1, foldL p.2)
def nmR (r : List Av) : List Av := srtR (r.map nmA)
def noD (s : List UInt8) : List UInt8 × Nat := if (rdD s).2 ≠ 0 then ([], (rdD s).2) else puD ((rdD s).1.map nmR)
theorem noD_err {s : List UInt8} {D : List (List Av)} {n : Nat} (h : rdD s = (D, n)) (hn : n ≠ 0) : noD s = ([], n) := by unfold noD; rw [h]; exact if_pos hn
theorem noD_ok {s : List UInt8} {D : List (List Av)} (h : rdD s = (D, 0)) : noD s = puD (D.map nmR) := by unfold noD; rw [h]; exact if_neg (by simp)
theorem rdD_facts {s : List UInt8} {D : List (List Av)} (h : rdD s = (D, 0)) : D.length <= 32 /\ ∀ r ∈ D, prL r = true := by
 unfold rdD at h
 split at h
 ·cases h
 ·split at h
  ·cases h; exact ⟨by simp, by simp⟩
  ·split at h
   ·cases h
   ·split at h
    ·cases h
    ·split at h
     ·rename_i h5; injection h with _ h2; exact absurd h2 h5
     ·rename_i h5; injection h with h1 _; subst h1; exact ckD_facts (by omega)
def nmT (D : List (List Av)) (i : Nat) : List (List Av) := (D.take i).map nmR ++ D.drop i
theorem nmT_zero (D : List (List Av)) : nmT D 0 = D := by simp [nmT]
theorem nmT_len (D : List (List Av)) (i : Nat) : (nmT D i).length = D.length := by simp [nmT]; omega
theorem nmT_end (D : List (List Av)) (i : Nat) (h : D.length <= i) : nmT D i = D.map nmR := by simp [nmT, List.take_of_length_le h, List.drop_of_length_le h]
theorem nmT_at (D : List (List Av)) (i : Nat) (h : i < D.length) (h' : i < (nmT D i).length) : (nmT D i)[i] = D[i] := by
 have e : (nmT D i)[i]? = D[i]? := by
  unfold nmT
  rw [List.getElem?_append_right (by simp; omega)]
  simp [show min i D.length = i by omega]
 rw [List.getElem?_eq_getElem h', List.getElem?_eq_getElem h] at e
 exact Option.some.inj e
theorem nmT_set (D : List (List Av)) (i : Nat) (h : i < D.length) : (nmT D i).set i (nmR D[i]) = nmT D (i + 1) := by
 have e : i - ((D.take i).map nmR).length = 0 := by simp; omega
 unfold nmT
 rw [List.set_append_right _ _ (by simp; omega), List.take_succ_eq_append_getElem h, List.map_append, e, drop_at D i h, List.set_cons_zero, List.append_assoc]
 rfl
def nmJ (r : List Av) (j : Nat) : List Av := (r.take j).map nmA ++ r.drop j
theorem nmJ_zero (r : List Av) : nmJ r 0 = r := by simp [nmJ]
theorem nmJ_len (r : List Av) (i : Nat) : (nmJ r i).length = r.length := by simp [nmJ]; omega
theorem nmJ_end (r : List Av) (i : Nat) (h : r.length <= i) : nmJ r i = r.map nmA := by simp [nmJ, List.take_of_length_le h, List.drop_of_length_le h]
theorem nmJ_at (r : List Av) (i : Nat) (h : i < r.length) (h' : i < (nmJ r i).length) : (nmJ r i)[i] = r[i] := by
 have e : (nmJ r i)[i]? = r[i]? := by
  unfold nmJ
  rw [List.getElem?_append_right (by simp; omega)]
  simp [show min i r.length = i by omega]
 rw [List.getElem?_eq_getElem h', List.getElem?_eq_getElem h] at e
 exact Option.some.inj e
theorem nmJ_set (r : List Av) (i : Nat) (h : i < r.length) : (nmJ r i).set i (nmA r[i]) = nmJ r (i + 1) := by
 have e : i - ((r.take i).map nmA).length = 0 := by simp; omega
 unfold nmJ
 rw [List.set_append_right _ _ (by simp; omega), List.take_succ_eq_append_getElem h, List.map_append, e, drop_at r i h, List.set_cons_zero, List.append_assoc]
 rfl
theorem blk_cong {w : World} {B g : Nat} {gs : List Nat} {D D' : List (List Av)} {m : Nat} {e1 e2 : TypeId} (h : DnBlk w B g gs D m e1 e2) (e : D = D') : DnBlk w B g gs D' m e1 e2 := e ▸ h
theorem dnAt_none (w : World) : DnAt w (.slice none 0 0) [] := ⟨_, _, rfl, Nat.le_refl _, fun i h => by simp at h⟩
theorem cell_other2 {w : World} {a b : Nat} (h : a ≠ b) (i j k : Nat) (u v : Value) : ((w.setCell ⟨b, i, none⟩ u).setCell ⟨b, j, none⟩ v).cell? ⟨a, k, none⟩ = w.cell? ⟨a, k, none⟩ :=
 World.cell?_of_block (w := w) (a := ⟨a, k, none⟩) ((Below.heap_setCell _ ⟨b, j, none⟩ v a h).trans (Below.heap_setCell w ⟨b, i, none⟩ u a h))
theorem dnorm_any (s : ByteArray) (w : World) (he : ErrOk w) :
  Calls Tryz.prog 181 #[.string s] w (PutPost (noD s.data.toList) w) := by
 have HR := Lib.hid (dread_any s w he)
 have HE := Lib.hid (fun D n h => noD_err (s := s.data.toList) (D := D) (n := n) h)
 have HO := Lib.hid (fun D h => noD_ok (s := s.data.toList) (D := D) h)
 have HQ := Lib.hid (fun D h => rdD_facts (s := s.data.toList) (D := D) h)
 obtain ⟨P, hP⟩ : ∃ P, rdD s.data.toList = P := ⟨_, rfl⟩
 rw [hP] at HR HE HO HQ
 clear hP he
 obtain ⟨D, n⟩ := P
 go_enter Tryz.func181, Tryz.ntmps181
 go_wp2_with fail
 refine HR.out.mono ?_
 rintro e w2 (⟨h1, rfl, hb⟩ | ⟨h2, g, gs, rfl, hd, hb⟩)
 ·by_cases hn : n = 0
  ·subst hn
   have h1' : D = [] := h1
   subst h1'
   have H := Lib.hid (And.intro (HO.out _ rfl) hb)
   have HC := Lib.hid (dput_any (.slice none 0 0) [] w2 (dnAt_none w2))
   clear hb h1
   obtain ⟨pq, hpq⟩ : ∃ pq, puD [] = pq := ⟨_, rfl⟩
   rw [List.map_nil, hpq] at H
   rw [hpq] at HC
   clear hpq
   obtain ⟨X, m⟩ := pq
   go_wp2
   go_loopw [20] (fun v wr => v = .int .i64 0 /\ wr = w2) (fun _ _ => 0)
   case atStart => exact ⟨rfl, rfl⟩
   case round =>
    obtain ⟨rfl, rfl⟩ := hrel
    go_wp2_with fail
    refine HC.out.mono ?_
    rintro e w3 ⟨rfl, hb3⟩
    have HB := Lib.hid (H.out.2.trans (hb3.mono H.out.2.size))
    clear hb3
    go_wp2
    go_ret2
    exact putPost_mk H.out.1 HB.out
  ·have hq : ((n : Int) != 0) = true := by simp; omega
   have H := Lib.hid (And.intro (HE.out _ _ rfl hn) hb)
   clear hn hb h1
   go_wp2
   go_ret2
   exact putPost_mk H.out.1 H.out.2
 ·have h2' : n = 0 := h2
  subst h2'
  obtain ⟨q1, q2⟩ := HQ.out D rfl
  have H := Lib.hid (And.intro (HO.out _ rfl) (And.intro hb (And.intro hd q2)))
  clear hb hd q2 h2
  obtain ⟨N, hN⟩ : ∃ N, D.length = N := ⟨_, rfl⟩
  unfold rowV
  rw [hN] at q1 ⊢
  go_wp2
  go_loopw [20] (fun v wr => ∃ i : Nat, i <= N /\ v = .int .i64 (i : Nat) /\ DnBlk wr w.heap.size g gs (nmT D i) 0 97 95 /\ Below w.heap.size w wr) (fun v _ => N - (intOf v).toNat)
  case atStart => exact ⟨0, Nat.zero_le _, rfl, blk_cong H.out.2.2.1 (nmT_zero D).symm, H.out.2.1⟩
  case round =>
   obtain ⟨i, hi, rfl, hblk, hb⟩ := hrel
   by_cases hlt : i < N
   ·have hil : (i : Int) < (N : Int) := by omega
    have hlT : i < (nmT D i).length := by rw [nmT_len]; omega
    have hlG : i < gs.length := by rw [hblk.len]; exact hlT
    have hTi : (nmT D i)[i] = D[i]'(by omega) := nmT_at D i (by omega) hlT
    obtain ⟨r, hr⟩ : ∃ r, D[i]'(by omega) = r := ⟨_, rfl⟩
    have hpr := H.out.2.2.2 r (by rw [<- hr]; exact List.getElem_mem _)
    obtain ⟨p1, p2, p3⟩ := prL_facts hpr
    have hrow := (hblk.rows i hlG hlT)
    have hoc := ovc_at gs (nmT D i) i hlG hlT
    have hset0 := nmT_set D i (by omega)
    rw [hTi, hr] at hrow hoc
    rw [hr] at hset0
    obtain ⟨gi, hgi⟩ : ∃ gi, gs[i] = gi := ⟨_, rfl⟩
    rw [hgi] at hrow hoc
    have c1 : wr.cell? ⟨g, i, none⟩ = some (.slice (some ⟨gi, 0, none⟩) r.length r.length) := by
     refine obj_cell hblk.outer i _ ?_
     have hlen := ovc_len gs (nmT D i) hblk.len
     simp only [List.getElem?_toArray]
     rw [List.getElem?_append_left (by rw [hlen]; exact hlT)]
     exact hoc
    obtain ⟨k, hk⟩ : ∃ k, r.length = k := ⟨_, rfl⟩
    rw [hk] at c1 p2
    have HA := Lib.hid (And.intro hblk (And.intro hb (And.intro hTi (And.intro hset0 (And.intro hgi (And.intro p3 (And.intro hk hr)))))))
    clear hblk hb hTi hset0 hoc p3 hpr hrow p1
    go_wp2
    go_loopw [26] (fun v wr => ∃ j : Nat, j <= k /\ v = .int .i64 (j : Nat) /\ DnBlk wr w.heap.size g gs ((nmT D i).set i (nmJ r j)) 0 97 95 /\ Below w.heap.size w wr) (fun v _ => k - (intOf v).toNat)
    case atStart =>
     refine ⟨0, Nat.zero_le _, rfl, blk_cong HA.out.1 ?_, HA.out.2.1⟩
     rw [nmJ_zero, <- HA.out.2.2.2.2.2.2.2, <- HA.out.2.2.1, List.set_getElem_self]
    case round =>
     obtain ⟨j, hj, rfl, hblk, hb⟩ := hrel
     by_cases hlj : j < k
     ·have hjk : (j : Int) < (k : Int) := by omega
      have hrj : j < r.length := by have := HA.out.2.2.2.2.2.2.1; omega
      have hlS : i < ((nmT D i).set i (nmJ r j)).length := by simpa using hlT
      have hSi : ((nmT D i).set i (nmJ r j))[i]'hlS = nmJ r j := by simp
      have hrow := (hblk.rows i hlG hlS)
      rw [hSi, HA.out.2.2.2.2.1] at hrow
      have hJl : j < (nmJ r j).length := by rw [nmJ_len]; exact hrj
      have hJat := nmJ_at r j hrj hJl
      have hJset := nmJ_set r j hrj
      have hok := avOk_len (HA.out.2.2.2.2.2.1 _ (List.getElem_mem hrj))
      have a1 := obj_cell hrow.2.2 (j * 2) _ (by simpa using (avc_at (nmJ r j) j hJl).1)
      have a2 := obj_cell hrow.2.2 (j * 2 + 1) _ (by simpa using (avc_at (nmJ r j) j hJl).2)
      have a3 := obj_free hrow.2.2 (j * 2)
      have a4 := obj_free hrow.2.2 (j * 2 + 1)
      rw [hJat] at a1 a2
      have hgl := obj_lt hrow.2.2
      have hgB := hrow.1
      obtain ⟨p, hp⟩ : ∃ p, r[j] = p := ⟨_, rfl⟩
      rw [hp] at a1 a2 hok hJset
      obtain ⟨T, V⟩ := p
      have HLo := Lib.hid (fun w => show Calls Tryz.prog 74 #[.string ⟨T.toArray⟩] w (StrPost (lowL T) w) from lower_any ⟨T.toArray⟩ w)
      have HFo := Lib.hid (fun w => show Calls Tryz.prog 220 #[.string ⟨V.toArray⟩] w (StrPost (foldL V) w) from fold_any ⟨V.toArray⟩ w (by show V.length + 1 <= _; have := hok.2.2.1; simp at this; omega))
      change nmJ r j |>.set j (lowL T, foldL V) |> fun z => z = _ at hJset
      obtain ⟨LT, hLT⟩ : ∃ L, lowL T = L := ⟨_, rfl⟩
      obtain ⟨FV, hFV⟩ : ∃ L, foldL V = L := ⟨_, rfl⟩
      rw [hLT] at HLo hJset
      rw [hFV] at HFo hJset
      have HB := Lib.hid (And.intro hblk (And.intro hb (And.intro hJset (And.intro hSi (And.intro hgB hlS)))))
      clear hblk hb hrow hJat hJset hok hp hSi hgB hLT hFV
      go_wp2
      obtain ⟨W2, hW2⟩ : ∃ W2, wr.alloc (.cells #[.string ⟨T.toArray⟩, .string ⟨V.toArray⟩] 97) = W2 := ⟨_, rfl⟩
      have hb2 : Below wr.heap.size wr W2 := by rw [<- hW2]; exact (Below.refl _ wr).alloc (Nat.le_refl _) _
      have hbox : W2.heap[wr.heap.size]? = some (.cells #[.string ⟨T.toArray⟩, .string ⟨V.toArray⟩] 97 (0, 0)) := by rw [<- hW2]; exact heap_alloc_new wr _
      obtain ⟨d1, d2⟩ := obj2 hbox
      have hz3 := obj_lt hbox
      have b1 := (hb2.cell (p := ⟨gi, j * 2, none⟩) hgl).trans a1
      have b2 := (hb2.cell (p := ⟨gi, j * 2 + 1, none⟩) hgl).trans a2
      have b3 := (hb2.frozen (p := ⟨gi, j * 2, none⟩) hgl).trans a3
      have b4 := (hb2.frozen (p := ⟨gi, j * 2 + 1, none⟩) hgl).trans a4
      have hgl2 : gi < W2.heap.size := Nat.lt_of_lt_of_le hgl hb2.size
      have HB2 := Lib.hid hb2
      obtain ⟨bx, hbx⟩ : ∃ bx, wr.heap.size = bx := ⟨_, rfl⟩
      rw [hW2]
      rw [hbx] at d1 d2 hz3 ⊢
      have hne : bx ≠ gi := by omega
      clear a1 a2 a3 a4 hb2 hbox hW2 hbx hgl
      go_region_held3 (fun w' => w'.cell? ⟨bx, 0, none⟩ = some (.string ⟨T.toArray⟩) /\ w'.cell? ⟨bx, 1, none⟩ = some (.string ⟨V.toArray⟩)) (first | exact ⟨e0, e1⟩ | exact ⟨d1, d2⟩ | exact ⟨(cell_other2 hne _ _ _ _ _).trans e0, (cell_other2 hne _ _ _ _ _).trans e1⟩ | go_keep)
       (first | (go_at_call 74; refine (HLo.out _).mono ?_; rintro en w5 ⟨rfl, hb5⟩; have hbW : Below W2.heap.size W2 w5 := (by first | exact hbW.trans (hb5.mono hbW.size) | exact (Below.refl _ W2).drew.trans hb5); have e0 := (hbW.cell (p := ⟨bx, 0, none⟩) hz3).trans d1; have e1 := (hbW.cell (p := ⟨bx, 1, none⟩) hz3).trans d2; have e2 := (hbW.cell (p := ⟨gi, j * 2, none⟩) hgl2).trans b1; have e3 := (hbW.cell (p := ⟨gi, j * 2 + 1, none⟩) hgl2).trans b2; have e4 := (hbW.frozen (p := ⟨gi, j * 2, none⟩) hgl2).trans b3; have e5 := (hbW.frozen (p := ⟨gi, j * 2 + 1, none⟩) hgl2).trans b4) | (go_at_call 220; refine (HFo.out _).mono ?_; rintro en w5 ⟨rfl, hb5⟩; have hbW : Below W2.heap.size W2 w5 := (by first | exact hbW.trans (hb5.mono hbW.size) | exact (Below.refl _ W2).drew.trans hb5); have e0 := (hbW.cell (p := ⟨bx, 0, none⟩) hz3).trans d1; have e1 := (hbW.cell (p := ⟨bx, 1, none⟩) hz3).trans d2; have e2 := (hbW.cell (p := ⟨gi, j * 2, none⟩) hgl2).trans b1; have e3 := (hbW.cell (p := ⟨gi, j * 2 + 1, none⟩) hgl2).trans b2; have e4 := (hbW.frozen (p := ⟨gi, j * 2, none⟩) hgl2).trans b3; have e5 := (hbW.frozen (p := ⟨gi, j * 2 + 1, none⟩) hgl2).trans b4))
      have HW := Lib.hid (And.intro (blk_below HB.out.1 (HB2.out.trans (hbW.mono HB2.out.size))) (HB.out.2.1.trans ((HB2.out.trans (hbW.mono HB2.out.size)).mono HB.out.2.1.size)))
      clear e0 e1 hb5 hbW d1 d2 b1 b2 b3 b4
      go_wp2
      have hJl2 : j < (((nmT D i).set i (nmJ r j))[i]'HB.out.2.2.2.2.2).length := by rw [HB.out.2.2.2.1, nmJ_len]; exact hrj
      have hset := blk_set HW.out.1 i hlG HB.out.2.2.2.2.2 j hJl2 (LT, FV)
      rw [HB.out.2.2.2.1, HA.out.2.2.2.2.1, List.set_set, HB.out.2.2.1] at hset
      refine ⟨⟨j + 1, by omega, by go_num, hset, ?_⟩, by simp [intOf]; omega⟩
      exact (HW.out.2.setCell (p := ⟨gi, j * 2, none⟩) HB.out.2.2.2.2.1 _).setCell (p := ⟨gi, j * 2 + 1, none⟩) HB.out.2.2.2.2.1 _
     ·obtain rfl : j = k := by omega
      have hrk := HA.out.2.2.2.2.2.2.1
      have hS := blk_cong hblk (show _ = (nmT D i).set i (r.map nmA) by rw [nmJ_end r j (by omega)])
      have hlS : i < ((nmT D i).set i (r.map nmA)).length := by simpa using hlT
      have hSi : ((nmT D i).set i (r.map nmA))[i]'hlS = r.map nmA := by simp
      have hso := dsort_any wr hS i hlG hlS (by rw [hSi, List.length_map]; omega)
      rw [hSi, HA.out.2.2.2.2.1, List.length_map, hrk, List.set_set] at hso
      have hfin : (nmT D i).set i (srtR (r.map nmA)) = nmT D (i + 1) := HA.out.2.2.2.1
      rw [hfin] at hso
      have HS := Lib.hid hso
      unfold rowV at HS
      have HB := Lib.hid hb
      clear hso hS hSi hfin hblk hb hrk hlS
      go_wp2_with fail
      refine HS.out.mono ?_
      rintro e w3 ⟨rfl, hd3, hb3⟩
      have H3 := Lib.hid (And.intro hd3 (HB.out.trans hb3))
      clear hd3 hb3
      go_wp2
      exact ⟨⟨i + 1, by omega, by go_num, H3.out.1, H3.out.2⟩, by simp [intOf]; omega⟩
   ·obtain rfl : i = N := by omega
    have hS := blk_cong hblk (nmT_end D i (by omega))
    have HC := Lib.hid (dput_any (rowV g (D.map nmR).length) (D.map nmR) wr (dnAt_blk hS))
    rw [List.length_map, hN] at HC
    unfold rowV at HC
    have HB := Lib.hid hb
    obtain ⟨pq, hpq⟩ : ∃ pq, puD (D.map nmR) = pq := ⟨_, rfl⟩
    rw [hpq] at H HC
    clear hS hblk hb hpq
    obtain ⟨X, m⟩ := pq
    go_wp2_with fail
    refine HC.out.mono ?_
    rintro e w3 ⟨rfl, hb3⟩
    have HB3 := Lib.hid (HB.out.trans (hb3.mono HB.out.size))
    clear hb3
    go_wp2
    go_ret2
    exact putPost_mk H.out.1 HB3.out
end Go.Proofs.YtpkbgkoocijegaaGreatDoor
