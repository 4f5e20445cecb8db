/- Two texts compared; two pairs compared by their types; the bits of a length. A row sorted by its types. -/
import Derived.Test.YtlopmppiihhnnaaGreatDoorDnFG
import Derived.Test.YtlopmppiihhnnaaGreatDoorDnZ
import Derived.Test.YtlopmppiihhnnaaGreatDoorLays
import Derived.Sort.Grow
import Derived.Shelf.SlSortCmp.SmallK
namespace Go.Proofs.YtlopmppiihhnnaaGreatDoor
set_option linter.unusedSimpArgs false
set_option linter.unusedVariables false
open Go Go.RowKit Go.Proofs.BerK Go.Proofs.MemK Go.Proofs.UtfK

/-- How two texts stand. -/
def cmpB (a b : ByteArray) : Int := if Op.bytesLess a.toList b.toList = true then -1 else if (a.toList == b.toList) = true then 0 else 1
def cmpA (x y : Av) : Int := cmpB ⟨x.1.toArray⟩ ⟨y.1.toArray⟩
def encA (p : Av) : List Value := [.string ⟨p.1.toArray⟩, .string ⟨p.2.toArray⟩]

theorem dnan_any (a : ByteArray) (w : World) : Calls Tryz.prog 64 #[.string a] w fun e w' => e = .returned (.bool false) ∧ w' = w := by
  go_enter Tryz.func64, Tryz.ntmps64
  go_wp2
  go_ret
  exact ⟨by simp, rfl⟩
set_option maxHeartbeats 1600000 in
theorem dcmp_any (a b : ByteArray) (w : World) : Calls Tryz.prog 42 #[.string a, .string b] w fun e w' => e = .returned (.int .i64 (cmpB a b)) ∧ w' = w := by
  have hn := fun x W => dnan_any x W
  unfold cmpB
  cases h1 : Op.bytesLess a.toList b.toList <;> cases h2 : (a.toList == b.toList) <;>
  · have h3 : (!(a.toList == b.toList)) = _ := congrArg not h2
    simp only [Bool.not_false, Bool.not_true] at h3
    go_enter Tryz.func42, Tryz.ntmps42
    go_wp2_with (go_at_call 64; refine (hn _ _).mono ?_; rintro e w' ⟨rfl, rfl⟩)
    go_ret
    exact ⟨rfl, rfl⟩
set_option maxHeartbeats 1600000 in
theorem dless_any (x y : Av) (W : World) : Calls Tryz.prog 41 #[.agg #[.string ⟨x.1.toArray⟩, .string ⟨x.2.toArray⟩], .agg #[.string ⟨y.1.toArray⟩, .string ⟨y.2.toArray⟩]] W fun e w' => e = .returned (.int .i64 (cmpA x y)) ∧ ∃ q os', w' = Go.Sort.grow (W.drewN q) os' := by
  have hcon := fun W' => dcmp_any ⟨x.1.toArray⟩ ⟨y.1.toArray⟩ W'
  change ∀ W', Calls Tryz.prog _ _ W' fun e w' => e = .returned (.int .i64 (cmpA x y)) ∧ w' = W' at hcon
  generalize cmpA x y = r at hcon ⊢
  go_enter Tryz.func41, Tryz.ntmps41
  go_wp2_with (go_at_call 42; refine (hcon _).mono ?_; rintro e w' ⟨rfl, rfl⟩)
  go_ret
  exact ⟨rfl, 0, _, by rw [Go.Sort.alloc_eq_grow, Go.Sort.alloc_eq_grow, Go.Sort.grow_grow]; rfl⟩
theorem dbits_any (n : Nat) (W : World) (h : n ≤ 12) : Calls Tryz.prog 63 #[.int .u64 n] W fun e w' => (∃ l : Int, e = .returned (.int .i64 l)) ∧ w' = W :=
  (Any.bits_Len Tryz.bitsLen6 n W (by omega) (by omega)).mono fun _ _ ⟨he, hw⟩ => ⟨⟨_, he⟩, hw⟩
end Go.Proofs.YtlopmppiihhnnaaGreatDoor
namespace Go.Proofs.YtlopmppiihhnnaaGreatDoor
set_option linter.unusedSimpArgs false
set_option linter.unusedVariables false
open Go Go.RowKit Go.Proofs.BerK Go.Proofs.MemK Go.Proofs.UtfK
open Go.Sort hiding Below


theorem flat_avc (r : List Av) : flatK encA 2 r.toArray = (avc r).toArray := by
  apply Array.ext_getElem?
  intro t
  by_cases ht : t < r.length * 2
  · have h1 : t < (flatK encA 2 r.toArray).size := by rw [size_flatK]; simpa using ht
    have hlt : t / 2 < r.length := by omega
    have h2 := get_flatK encA 2 r.toArray t (by simpa using ht)
    rw [getElem!_pos (flatK encA 2 r.toArray) t h1] at h2
    rw [Array.getElem?_eq_getElem h1, h2, List.getElem?_toArray]
    have e : (r.toArray)[t / 2]! = r[t / 2] := by
      rw [getElem!_pos r.toArray (t / 2) (by simpa using hlt)]; simp
    rw [e]
    obtain ⟨a1, a2⟩ := avc_at r (t / 2) hlt
    rcases (show t % 2 = 0 ∨ t % 2 = 1 by omega) with h | h
    · rw [show t / 2 * 2 = t by omega] at a1
      rw [a1, h]; rfl
    · rw [show t / 2 * 2 + 1 = t by omega] at a2
      rw [a2, h]; rfl
  · rw [Array.getElem?_eq_none (by rw [size_flatK]; simpa using ht), List.getElem?_toArray, List.getElem?_eq_none (by rw [avc_len]; omega)]

def srtR (r : List Av) : List Av := (Go.Sort.insertionSort (ltOf cmpA) r.toArray 0 r.length).toList
theorem insI_size {α : Type} [Inhabited α] (lt : α → α → Bool) (a : Nat) : ∀ (j : Nat) (d : Array α), (insInner lt a j d).size = d.size
  | 0, d => rfl
  | j + 1, d => by
    rw [insInner]
    split
    · rw [insI_size lt a j, size_swp]
    · rfl
theorem insO_size {α : Type} [Inhabited α] (lt : α → α → Bool) (a b : Nat) : ∀ (n i : Nat) (d : Array α), b - i = n → (insOuter lt a b i d).size = d.size := by
  intro n
  induction n with
  | zero => intro i d h; rw [insOuter, if_neg (by omega)]
  | succ n ih => intro i d h; rw [insOuter, if_pos (by omega), ih (i + 1) _ (by omega), insI_size]
theorem srtR_len (r : List Av) : (srtR r).length = r.length := by
  unfold srtR Go.Sort.insertionSort
  rw [Array.length_toList, insO_size _ _ _ _ _ _ rfl]; simp
theorem srtR_one (p : Av) : srtR [p] = [p] := by
  unfold srtR Go.Sort.insertionSort
  rw [insOuter, if_neg (by simp)]
theorem putRow_obj {w : World} {b : Nat} {c F : Array Value} {e : TypeId} {fr : Nat × Nat} (h : w.heap[b]? = some (.cells c e fr)) (hs : F.size = c.size) : (putRow id w b 0 F).heap[b]? = some (.cells F e fr) := by
  have hF : putCells id 0 F c = F := by
    apply Array.ext_getElem?
    intro t
    unfold putCells
    rw [Array.getElem?_mapIdx]
    by_cases ht : t < c.size
    · rw [Array.getElem?_eq_getElem ht, Option.map_some, if_pos ⟨Nat.zero_le _, by omega⟩, Array.getElem?_eq_getElem (by omega : t < F.size)]
      simp only [id, Nat.sub_zero]
      rw [getElem!_pos F t (by omega)]
    · rw [Array.getElem?_eq_none (by omega), Array.getElem?_eq_none (by omega : F.size ≤ t)]; rfl
  unfold putRow mapBlock
  simp [Array.getElem?_modify, h, onCells, hF]
theorem putRow_other {w : World} {b : Nat} {F : Array Value} (k : Nat) (hk : k ≠ b) : (putRow id w b 0 F).heap[k]? = w.heap[k]? := by
  unfold putRow mapBlock
  simp [Array.getElem?_modify, Ne.symm hk]
theorem blk_sorted {w : World} {B g : Nat} {gs : List Nat} {D : List (List Av)} {m : Nat} {e1 e2 : TypeId} (h : DnBlk w B g gs D m e1 e2) (k : Nat) (hk : k < gs.length) (hk' : k < D.length) (r : List Av) (hr : r.length = D[k].length) (n : Nat) (os : Array Obj) :
    DnBlk (sortWorldK encA 2 w gs[k] 0 n r.toArray os) B g gs (D.set k r) m e1 e2 ∧ Go.RowKit.Below B w (sortWorldK encA 2 w gs[k] 0 n r.toArray os) := by
  obtain ⟨a, b, c⟩ := h.rows k hk hk'
  have hold : ∀ j, j < w.heap.size → (sortWorldK encA 2 w gs[k] 0 n r.toArray os).heap[j]? = (putRow id (Go.Sort.ahead w n) gs[k] 0 (avc r).toArray).heap[j]? := by
    intro j hj
    unfold sortWorldK putRowK
    rw [heap_grow_old _ _ (by simpa using hj), flat_avc]
  have hoth : ∀ j, j < w.heap.size → j ≠ gs[k] → (sortWorldK encA 2 w gs[k] 0 n r.toArray os).heap[j]? = w.heap[j]? := fun j hj hne => by
    rw [hold j hj, putRow_other j hne]; rfl
  refine ⟨⟨h.base, by simp [h.len], ?_, ?_, h.nodup⟩, ?_⟩
  · rw [ovc_set gs D k _ hk' hr, hoth g (obj_lt h.outer) (fun e => b e.symm)]; exact h.outer
  · intro i hi hi'
    have hi2 : i < D.length := by simpa using hi'
    obtain ⟨a', b', c'⟩ := h.rows i hi hi2
    refine ⟨a', b', ?_⟩
    by_cases hik : i = k
    · subst hik
      have e : (D.set i r)[i]'hi' = r := by simp
      rw [e, hold _ (obj_lt c')]
      exact putRow_obj (w := Go.Sort.ahead w n) c' (by rw [List.size_toArray, List.size_toArray, avc_len, avc_len, hr])
    · have e : (D.set k r)[i]'hi' = D[i] := List.getElem_set_ne (fun e => hik e.symm) _
      have hne : gs[i] ≠ gs[k] := fun e => hik ((List.getElem_inj h.nodup).1 e)
      rw [e, hoth _ (obj_lt c') hne]; exact c'
  · have hkl := obj_lt c
    refine ⟨rfl, rfl, rfl, ?_, fun j hj => ?_⟩
    · unfold sortWorldK putRowK; simp
    · exact hoth j (by omega) (by omega)
theorem wrap_len (q : Nat) (h : q ≤ 12) : IntKind.u64.wrap (q : Int) = (q : Int) := by simp [IntKind.wrap, IntKind.signed, IntKind.bits]; omega
theorem dsort_any (w : World) {B g : Nat} {gs : List Nat} {D : List (List Av)} {m : Nat} {e1 e2 : TypeId} (h : DnBlk w B g gs D m e1 e2) (k : Nat) (hk : k < gs.length) (hk' : k < D.length) (h12 : D[k].length ≤ 12) :
    Calls Tryz.prog 40 #[rowV gs[k] D[k].length, .func (.func 41) #[] #[]] w fun e w' => e = .returned (.tuple #[]) ∧ DnBlk w' B g gs (D.set k (srtR D[k])) m e1 e2 ∧ Go.RowKit.Below B w w' := by
  have eg : ∀ args w, (callFunc 41 args).run Tryz.prog w = .ok (.enter 41 args) w := enters_of Tryz.func41 (by kernel_rfl) rfl
  obtain ⟨a, b, c⟩ := h.rows k hk hk'
  have hH : HoldsK encA 2 w gs[k] 0 D[k].toArray := by
    intro j hj
    rw [flat_avc] at hj ⊢
    have hj' : j < (avc D[k]).length := by simpa using hj
    refine ⟨?_, ?_⟩
    · rw [Nat.zero_add]
      refine obj_cell c j _ ?_
      rw [Array.getElem?_eq_getElem hj, getElem!_pos _ j hj]; rfl
    · rw [Nat.zero_add]; exact obj_free c j
  have hcon := fun lim => AnyQ.pdqsortCmpFunc_small Tryz.sortRow6 2 Tryz.isAgg65 Tryz.sizeOf65 encA (fun _ => rfl) (fun x v hv => by simp [encA] at hv; rcases hv with rfl | rfl <;> rfl) cmpA 41 #[] gs[k] 0 D[k].length 0 D[k].toArray.size lim D[k].toArray w eg (fun _ _ _ _ x y => dless_any x y _) hH (obj_lt c) (Nat.zero_le _) (Nat.le_refl _) (by rw [List.size_toArray]; omega) (by rw [List.size_toArray]; omega)
  change ∀ lim : Int, Calls Tryz.prog 62 #[.slice (some ⟨gs[k], 0, none⟩) D[k].length D[k].length, .int .i64 0, .int .i64 (D[k].length : Nat), .int .i64 lim, .func (.func 41) #[] #[]] w _ at hcon
  have HC := Lib.hid hcon
  have hlen := dbits_any D[k].length w h12
  have HL := Lib.hid hlen
  have HD := Lib.hid h
  have hlw : IntKind.u64.wrap (D[k].length : Int) = (D[k].length : Int) := wrap_len _ h12
  unfold rowV
  clear hcon hlen hH a b c eg h
  go_enter Tryz.func40, Tryz.ntmps40
  go_wp2_with (first | (go_at_call 63; refine HL.out.mono ?_; rintro e w' ⟨⟨l, rfl⟩, rfl⟩) | (go_at_call 62; refine (HC.out _).mono ?_; rintro e w' ⟨rfl, n, os, rfl⟩))
  go_end0
  refine ⟨rfl, ?_⟩
  have := blk_sorted HD.out k hk hk' (srtR D[k]) (srtR_len _) n os
  have e : (srtR D[k]).toArray = Go.Sort.insertionSort (ltOf cmpA) D[k].toArray 0 D[k].toArray.size := by unfold srtR; rw [List.size_toArray, Array.toArray_toList]
  rw [e] at this
  exact this
end Go.Proofs.YtlopmppiihhnnaaGreatDoor
