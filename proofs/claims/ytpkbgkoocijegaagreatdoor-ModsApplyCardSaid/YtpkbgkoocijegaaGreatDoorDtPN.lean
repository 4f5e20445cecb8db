/- Plain facts on trees of names: paths from the root, in order; all below one, each with all below it ahead of the next one. Plain facts on trees of entries: which there are, in order, behind one that is put, and behind one that is gone. Plain facts on trees of entries: an entry put, an entry gone; what stands right below a name; the codes. -/
import Derived.Test.YtpkbgkoocijegaaGreatDoorPlnA
import Derived.Test.YtpkbgkoocijegaaGreatDoorPlMN
import Derived.Test.YtpkbgkoocijegaaGreatDoorPlEF
import Derived.Test.YtpkbgkoocijegaaGreatDoorEnMP
import Derived.Test.YtpkbgkoocijegaaGreatDoorSnAL
import Derived.Test.YtpkbgkoocijegaaGreatDoorRuAD
import Derived.Test.YtpkbgkoocijegaaGreatDoorScAD
import Derived.Test.YtpkbgkoocijegaaGreatDoorEnCE
set_option linter.unusedVariables false
set_option linter.unusedSimpArgs false
set_option maxHeartbeats 25600000
set_option maxRecDepth 100000
namespace Go.Proofs.YtpkbgkoocijegaaGreatDoor
open Go
abbrev Pa := List (List UInt8)
def ltP : Pa -> Pa -> Bool
 | [], [] => false
 | [], _ :: _ => true
 | _ :: _, [] => false
 | p :: x, q :: y => if p = q then ltP x y else ltB p q
structure TreeP (P : List Pa) : Prop where
 up : P.Pairwise (fun x y => ltP x y = true)
 ne : ∀ x ∈ P, x ≠ []
 above : ∀ x ∈ P, x.dropLast = [] \/ x.dropLast ∈ P
 deep : ∀ x ∈ P, x.length <= 32
end Go.Proofs.YtpkbgkoocijegaaGreatDoor
namespace Go.Proofs.YtpkbgkoocijegaaGreatDoor
open Go Go.RowKit Go.Proofs.BerK Go.Proofs.MemK Go.Proofs.UtfK
abbrev Ent := List UInt8 × List Atr
def paL (s : List UInt8) : Pa := ((psO s).getD []).reverse
theorem pa_some {s : List UInt8} {D : List (List Av)} (h : nrD s = some D) : paL s = (D.map ptL).reverse := by
 unfold paL psO; rw [h]; rfl
theorem nr_nil : nrD [] = some [] := by have := nr_nm gd_nil; rwa [nm_nil] at this
theorem pa_nil : paL [] = [] := by rw [pa_some nr_nil]; rfl
def Nm (s : List UInt8) : Prop := ∃ r D, nrD s = some (r :: D)
theorem nm_some {s : List UInt8} (h : Nm s) : ∃ D, nrD s = some D := by obtain ⟨r, D, h⟩ := h; exact ⟨_, h⟩
theorem nm_par {s : List UInt8} (h : Nm s) : ∃ p l, parL s = (p, true) /\ leafL s = (l, true) /\ paL s = paL p ++ [l] /\ ∃ D, nrD p = some D := by
 obtain ⟨r, D, h⟩ := h
 have hg := (gd_cons (nr_some h).2).2
 refine ⟨nmL D, ptL r, par_cons h, leaf_cons h, ?_, D, nr_nm hg⟩
 rw [pa_some h, pa_some (nr_nm hg)]; simp
theorem nm_pa_ne {s : List UInt8} (h : Nm s) : paL s ≠ [] := by
 obtain ⟨p, l, _, _, e, _⟩ := nm_par h
 rw [e]; simp
theorem nm_deep {s : List UInt8} (h : Nm s) : (paL s).length <= 32 := by
 obtain ⟨D, h⟩ := nm_some h
 rw [pa_some h]; simpa using (nr_some h).2.1
def bfN (a b : List UInt8) : Bool := ltP (paL a) (paL b)
structure TrL (L : List Ent) : Prop where
 up : L.Pairwise (fun a b => bfN a.1 b.1 = true)
 nm : ∀ e ∈ L, Nm e.1
 above : ∀ e ∈ L, (parL e.1).1 = [] \/ ∃ x ∈ L, x.1 = (parL e.1).1
theorem TrL.tree {L : List Ent} (h : TrL L) : TreeP (L.map fun e => paL e.1) := by
 refine ⟨?_, ?_, ?_, ?_⟩
 ·rw [List.pairwise_map]; exact h.up
 ·intro x hx
  obtain ⟨e, he, rfl⟩ := List.mem_map.1 hx
  exact nm_pa_ne (h.nm e he)
 ·intro x hx
  obtain ⟨e, he, rfl⟩ := List.mem_map.1 hx
  obtain ⟨p, l, h1, h2, h3, _⟩ := nm_par (h.nm e he)
  have ha := h.above e he
  rw [h1] at ha
  rw [h3, List.dropLast_concat]
  rcases ha with ha | ⟨x, hx, ha⟩
  ·left; simp only at ha; rw [ha, pa_nil]
  ·right
   simp only at ha
   exact List.mem_map.2 ⟨x, hx, by rw [ha]⟩
 ·intro x hx
  obtain ⟨e, he, rfl⟩ := List.mem_map.1 hx
  exact nm_deep (h.nm e he)
def nmgL (A : List Atr) (r : List Av) : Bool := r.all fun p => match scT plT p.1 with
 | none => false
 | some t => (geL A p.1).any (sameQ t.2.1 p.2)
def nmgS (A : List Atr) (s : List UInt8) : Bool := match nrD s with
 | some (r :: _) => nmgL A r
 | _ => false
end Go.Proofs.YtpkbgkoocijegaaGreatDoor
