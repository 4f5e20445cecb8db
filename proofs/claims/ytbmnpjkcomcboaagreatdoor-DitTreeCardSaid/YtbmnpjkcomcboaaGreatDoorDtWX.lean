/- Trees that are none; the entries of the examples. The example of the laws of layer 20. -/
import Derived.Test.YtbmnpjkcomcboaaGreatDoorDtLR
import Derived.Test.YtbmnpjkcomcboaaGreatDoorDtSV
import Derived.Test.YtbmnpjkcomcboaaGreatDoorDtJ
import Derived.Test.YtbmnpjkcomcboaaGreatDoorTxs
namespace Go.Proofs.YtbmnpjkcomcboaaGreatDoor
set_option linter.unusedSimpArgs false
set_option linter.unusedVariables false
open Go Go.RowKit Go.Proofs.BerK Go.Proofs.MemK Go.Proofs.UtfK Go.Maps Go.WideMaps

def domA (v : List UInt8) : List Atr := [([111, 98, 106, 101, 99, 116, 99, 108, 97, 115, 115], [[100, 111, 109, 97, 105, 110]]), ([100, 99], [v])]
def nB : List UInt8 := [100, 99, 61, 98]
def nAB : List UInt8 := [100, 99, 61, 97, 44, 100, 99, 61, 98]
def nC : List UInt8 := [100, 99, 61, 99]
def nX : List UInt8 := [68, 67, 61, 120]
def domC (v : List UInt8) : List Atr := [([100, 99], [v]), ([111, 98, 106, 101, 99, 116, 99, 108, 97, 115, 115], [[100, 111, 109, 97, 105, 110]])]
theorem obj_lt' {w : World} {b : Nat} {o : Obj} (h : w.heap[b]? = some o) : b < w.heap.size := (Array.getElem?_eq_some_iff.1 h).1
theorem cl_putD (A : List Atr) (a : Atr) : clA (A ++ [a]) = putL (clA A) (lowL a.1) a.2 := by
  rw [put_cl]
theorem domA_cl (v : List UInt8) : clA (domA v) = domC v := by
  have e : domA v = ([] ++ [([111, 98, 106, 101, 99, 116, 99, 108, 97, 115, 115], [[100, 111, 109, 97, 105, 110]])]) ++ [([100, 99], [v])] := rfl
  rw [e, cl_putD, cl_putD, cl_nil]
  rfl
def aw1 : List Ent := [(nB, domC [66])]
def aw2 : List Ent := [(nB, domC [66]), (nAB, domC [97])]
theorem aw_a : addC [] (nAB, domA [97]) = 32 := by decide +kernel
theorem aw_b : addC [] (nB, domA [66]) = 0 := by decide +kernel
theorem aw_b2 : addL [] (nB, domA [66]) = aw1 := by unfold addL; rw [if_pos aw_b]; unfold clE; rw [domA_cl]; decide +kernel
theorem aw_c : addC aw1 (nAB, domA [97]) = 0 := by decide +kernel
theorem aw_c2 : addL aw1 (nAB, domA [97]) = aw2 := by unfold addL; rw [if_pos aw_c]; unfold clE; rw [domA_cl]; decide +kernel
theorem aw_d : addC aw2 (nB, domA [98]) = 68 := by decide +kernel
theorem aw_e : addC aw2 (nC, domA [120]) = 64 := by decide +kernel
theorem aw_f : delC aw2 nB = 66 := by decide +kernel
theorem aw_g : delC aw2 nAB = 0 ∧ delL aw2 nAB = aw1 := by decide +kernel
theorem aw_h : delC aw1 nAB = 32 := by decide +kernel
theorem aw_i : addC aw1 (nX, domA [120]) = 34 := by decide +kernel
theorem aw_j : lkE aw2 nB = some (nB, domC [66]) := by decide +kernel
set_option maxHeartbeats 1600000 in
theorem dtadd_nil (e : Value) (dn : List UInt8) (a : Option Addr) (n c : Nat) (w : World) (he : e = .agg #[.string ⟨dn.toArray⟩, .slice a n c]) : Calls Tryz.prog 19 #[.pointer none, e] w (ChkPost 80 w) := by
  subst he
  go_enter Tryz.func19, Tryz.ntmps19
  go_wp2
  go_ret
  exact ⟨rfl, (Below.refl _ _).alloc (Nat.le_refl _) _⟩
set_option maxHeartbeats 1600000 in
theorem dtrep_nil (e : Value) (dn : List UInt8) (a : Option Addr) (n c : Nat) (w : World) (he : e = .agg #[.string ⟨dn.toArray⟩, .slice a n c]) : Calls Tryz.prog 21 #[.pointer none, e] w (ChkPost 80 w) := by
  subst he
  go_enter Tryz.func21, Tryz.ntmps21
  go_wp2
  go_ret
  exact ⟨rfl, (Below.refl _ _).alloc (Nat.le_refl _) _⟩
set_option maxHeartbeats 1600000 in
theorem dtdel_nil (dn : List UInt8) (w : World) : Calls Tryz.prog 20 #[.pointer none, .string ⟨dn.toArray⟩] w (ChkPost 80 w) := by
  go_enter Tryz.func20, Tryz.ntmps20
  go_wp2
  go_ret
  exact ⟨rfl, Below.refl _ _⟩
set_option maxHeartbeats 1600000 in
theorem dtcopy_nil (w : World) : Calls Tryz.prog 13 #[.pointer none] w (fun en w' => en = .returned (.pointer none) ∧ w = w') := by
  go_enter Tryz.func13, Tryz.ntmps13
  go_wp2
  go_ret
  exact ⟨rfl, rfl⟩
set_option maxHeartbeats 1600000 in
theorem dtadd_ns (g : Nat) (m1 m2 : Value) (e : Value) (dn : List UInt8) (a : Option Addr) (n c : Nat) (w : World) (he : e = .agg #[.string ⟨dn.toArray⟩, .slice a n c]) (hg : w.heap[g]? = some (.cells #[.pointer none, m1, m2] 69 (0, 0))) : Calls Tryz.prog 19 #[.pointer (some ⟨g, 0, none⟩), e] w (ChkPost 80 w) := by
  subst he
  obtain ⟨c0, _, _⟩ := obj3 (obj_below hg ((Below.refl _ w).alloc (Nat.le_refl _) (.cells #[.string ⟨dn.toArray⟩, .slice a n c] 39)) (obj_lt hg))
  clear hg
  go_enter Tryz.func19, Tryz.ntmps19
  go_wp2
  go_ret
  exact ⟨rfl, (Below.refl _ _).alloc (Nat.le_refl _) _⟩
set_option maxHeartbeats 1600000 in
theorem dtrep_ns (g : Nat) (m1 m2 : Value) (e : Value) (dn : List UInt8) (a : Option Addr) (n c : Nat) (w : World) (he : e = .agg #[.string ⟨dn.toArray⟩, .slice a n c]) (hg : w.heap[g]? = some (.cells #[.pointer none, m1, m2] 69 (0, 0))) : Calls Tryz.prog 21 #[.pointer (some ⟨g, 0, none⟩), e] w (ChkPost 80 w) := by
  subst he
  obtain ⟨c0, _, _⟩ := obj3 (obj_below hg ((Below.refl _ w).alloc (Nat.le_refl _) (.cells #[.string ⟨dn.toArray⟩, .slice a n c] 39)) (obj_lt hg))
  clear hg
  go_enter Tryz.func21, Tryz.ntmps21
  go_wp2
  go_ret
  exact ⟨rfl, (Below.refl _ _).alloc (Nat.le_refl _) _⟩
def TIn (w1 w : World) (sb g : Nat) (S : Nat → Prop) (L : List Ent) : Prop :=
  TrAt w w1.heap.size g (.pointer (some ⟨sb, 0, none⟩)) S L ∧ Below w1.heap.size w1 w ∧ TrL L ∧ L.length ≤ 1024
def TOut (w1 w : World) (sb g : Nat) (S : Nat → Prop) (c : Nat) (L : List Ent) (en : Ending) (w' : World) : Prop :=
  en = .returned (.int .i64 (c : Nat)) ∧ ∃ S', TIn w1 w' sb g S' L ∧ Chg S w w' ∧ ∀ k, S' k → S k ∨ w.heap.size ≤ k
theorem tin_off {w1 w : World} {sb g : Nat} {S : Nat → Prop} {L : List Ent} {P : World → Prop} (h : TIn w1 w sb g S L) (hp : ∀ w', Below w1.heap.size w1 w' → P w') : Off S w P :=
  off_ahead hp h.2.1 (fun k hk => (trAt_isTr h.1 k hk).2.1)
theorem tin_below {w1 w w' : World} {sb g : Nat} {S : Nat → Prop} {L : List Ent} (h : TIn w1 w sb g S L) (hb : Below w.heap.size w w') : TIn w1 w' sb g S L :=
  ⟨trAt_below h.1 hb, h.2.1.trans (hb.mono h.2.1.size), h.2.2⟩
theorem tin_post {w1 w w' : World} {sb g : Nat} {S : Nat → Prop} {L L' : List Ent} {c : Nat} {en : Ending} (h : TIn w1 w sb g S L) (hT : TrL L') (hl : L'.length ≤ 1024) (hp : TrPost c w1.heap.size g (.pointer (some ⟨sb, 0, none⟩)) S L' w en w') : TOut w1 w sb g S c L' en w' := by
  obtain ⟨h1, S', h2, h3, h4⟩ := hp
  exact ⟨h1, S', ⟨h2, h.2.1.trans (h3.toBelow h.2.1.size (fun k _ hk => (trAt_isTr h.1 k hk).2.1)), hT, hl⟩, h3, h4⟩
def Wld (w1 : World) (sb : Nat) : Prop := ∀ w', Below w1.heap.size w1 w' → ScAt w' sb plT plC ∧ ErrOk w'
theorem tin_add {w1 w : World} {sb g : Nat} {S : Nat → Prop} {L : List Ent} {A : List Atr} {dn : List UInt8} {av : Value} (hw : Wld w1 sb) (h : TIn w1 w sb g S L) (hA : EaAt w av A) (hf : FewZ A) (hdn : dn.length ≤ 140737488355328) :
    Calls Tryz.prog 19 #[.pointer (some ⟨g, 0, none⟩), .agg #[.string ⟨dn.toArray⟩, av]] w (TOut w1 w sb g S (addC L (dn, A)) (addL L (dn, A))) :=
  (dtadd_any _ g sb S L A dn av w h.1 h.2.2.1 h.2.2.2 (tin_off h (fun w' hb => (hw w' hb).1)) (tin_off h (fun w' hb => (hw w' hb).2)) hA hf hdn).mono fun en w' hp =>
    tin_post h (trL_add h.2.2.1 _) (add_len h.2.2.1 h.2.2.2 _) hp
theorem tin_rep {w1 w : World} {sb g : Nat} {S : Nat → Prop} {L : List Ent} {A : List Atr} {dn : List UInt8} {av : Value} (hw : Wld w1 sb) (h : TIn w1 w sb g S L) (hA : EaAt w av A) (hf : FewZ A) (hdn : dn.length ≤ 140737488355328) :
    Calls Tryz.prog 21 #[.pointer (some ⟨g, 0, none⟩), .agg #[.string ⟨dn.toArray⟩, av]] w (TOut w1 w sb g S (repC L (dn, A)) (repL L (dn, A))) :=
  (dtrep_any _ g sb S L A dn av w h.1 h.2.2.1 h.2.2.2 (tin_off h (fun w' hb => (hw w' hb).1)) (tin_off h (fun w' hb => (hw w' hb).2)) hA hf hdn).mono fun en w' hp =>
    tin_post h (trL_rep h.2.2.1 _) (rep_len h.2.2.1 h.2.2.2 _) hp
theorem tin_del {w1 w : World} {sb g : Nat} {S : Nat → Prop} {L : List Ent} {dn : List UInt8} (hw : Wld w1 sb) (h : TIn w1 w sb g S L) (hdn : dn.length ≤ 140737488355328) :
    Calls Tryz.prog 20 #[.pointer (some ⟨g, 0, none⟩), .string ⟨dn.toArray⟩] w (TOut w1 w sb g S (delC L dn) (delL L dn)) :=
  (dtdel_any _ g _ S L dn w h.1 h.2.2.1 h.2.2.2 (tin_off h (fun w' hb => (hw w' hb).2)) hdn).mono fun en w' hp =>
    tin_post h (trL_del h.2.2.1 _) (del_len h.2.2.2 _) hp
theorem tin_addc {w1 w : World} {sb g : Nat} {S : Nat → Prop} {L L' : List Ent} {A : List Atr} {dn : List UInt8} {av : Value} {c : Nat} (hc : addC L (dn, A) = c) (hl : addL L (dn, A) = L') (hw : Wld w1 sb) (h : TIn w1 w sb g S L) (hA : EaAt w av A) (hf : FewZ A) (hdn : dn.length ≤ 140737488355328) :
    Calls Tryz.prog 19 #[.pointer (some ⟨g, 0, none⟩), .agg #[.string ⟨dn.toArray⟩, av]] w (TOut w1 w sb g S c L') := by
  have := tin_add hw h hA hf hdn
  rwa [hc, hl] at this
theorem tin_delc {w1 w : World} {sb g : Nat} {S : Nat → Prop} {L L' : List Ent} {dn : List UInt8} {c : Nat} (hc : delC L dn = c) (hl : delL L dn = L') (hw : Wld w1 sb) (h : TIn w1 w sb g S L) (hdn : dn.length ≤ 140737488355328) :
    Calls Tryz.prog 20 #[.pointer (some ⟨g, 0, none⟩), .string ⟨dn.toArray⟩] w (TOut w1 w sb g S c L') := by
  have := tin_del hw h hdn
  rwa [hc, hl] at this
theorem tr_other {w1 w w' : World} {sb g B2 g2 : Nat} {sv2 : Value} {S S' S2 : Nat → Prop} {L L2 : List Ent} (hk : TrAt w B2 g2 sv2 S2 L2) (h : TIn w1 w sb g S L) (hd : ∀ k, S k → ¬ S2 k ∧ k ≠ g2) (hc : Chg S w w') (hs : ∀ k, S' k → S k ∨ w.heap.size ≤ k) :
    TrAt w' B2 g2 sv2 S2 L2 ∧ ∀ k, S' k → ¬ S2 k ∧ k ≠ g2 := by
  refine ⟨trAt_chg hk hc (fun k hk' _ => hd k hk') (pa_keep hc (fun k hk' => (trAt_isTr h.1 k hk').1)), fun k hk' => ?_⟩
  rcases hs k hk' with q | q
  · exact hd k q
  · refine ⟨fun h2 => ?_, fun e => ?_⟩
    · have := (trAt_isTr hk k h2).2.2.1
      omega
    · have := trAt_lt hk
      omega
theorem box_keep {w1 w w' : World} {sb g b : Nat} {S : Nat → Prop} {L : List Ent} {cs : Array Value} {t : TypeId} {m : Nat × Nat} (h : TIn w1 w sb g S L) (hc : Chg S w w') (hb : w.heap[b]? = some (.cells cs t m)) (ht : t ≠ 86) : w'.heap[b]? = some (.cells cs t m) := by
  refine (hc.block b (obj_lt' hb) (fun hS => ?_)).trans hb
  rcases (trAt_isTr h.1 b hS).1 with ⟨es, c, hm⟩ | ⟨cs', m', hm⟩
  · rw [hb] at hm; cases hm
  · rw [hb] at hm
    injection hm with hm
    injection hm with _ h2 _
    exact ht h2
theorem fewz_dom (v : List UInt8) (h : v.length ≤ 1000) : FewZ (domA v) := by
  have e : ∀ a ∈ domA v, a.1.length ≤ 100000 ∧ a.2.length ≤ 300 ∧ ∀ s ∈ a.2, s.length ≤ 100000 := by
    intro a ha
    unfold domA at ha
    simp only [List.mem_cons, List.not_mem_nil, or_false] at ha
    rcases ha with rfl | rfl
    · exact ⟨by decide, by decide, fun s hs => by simp at hs; subst hs; decide⟩
    · exact ⟨by simp, by simp, fun s hs => by simp at hs; subst hs; omega⟩
  exact ⟨⟨by simp [domA], fun a ha => ⟨(e a ha).1, by have := (e a ha).2.1; omega, (e a ha).2.2⟩⟩, ⟨by simp [domA], e⟩⟩
def DomPost (n v : List UInt8) (w : World) (en : Ending) (w' : World) : Prop :=
  ∃ b, en = .returned (.agg #[.string ⟨n.toArray⟩, .slice (some ⟨b, 0, none⟩) 2 2]) ∧ EaAt w' (.slice (some ⟨b, 0, none⟩) 2 2) (domA v) ∧ Below w.heap.size w w'
set_option maxHeartbeats 3200000 in
set_option maxRecDepth 100000 in
theorem dtdom_any (n v : List UInt8) (w : World) : Calls Tryz.prog 27 #[.string ⟨n.toArray⟩, .string ⟨v.toArray⟩] w (DomPost n v w) := by
  obtain ⟨W1, hW1⟩ : ∃ W, w.alloc (.cells #[.string ⟨n.toArray⟩, .slice (some ⟨w.heap.size + 1 + 1 + 1, 0, none⟩) 2 2] 39) = W := ⟨_, rfl⟩
  obtain ⟨W2, hW2⟩ : ∃ W, W1.alloc (.cells #[.string ⟨#[100, 111, 109, 97, 105, 110]⟩] 9) = W := ⟨_, rfl⟩
  obtain ⟨W3, hW3⟩ : ∃ W, W2.alloc (.cells #[.string ⟨v.toArray⟩] 9) = W := ⟨_, rfl⟩
  obtain ⟨W4, hW4⟩ : ∃ W, W3.alloc (.cells #[.string ⟨#[111, 98, 106, 101, 99, 116, 99, 108, 97, 115, 115]⟩, .slice (some ⟨w.heap.size + 1, 0, none⟩) 1 1, .string ⟨#[100, 99]⟩, .slice (some ⟨w.heap.size + 1 + 1, 0, none⟩) 1 1] 81) = W := ⟨_, rfl⟩
  have z1 : W1.heap.size = w.heap.size + 1 := by rw [← hW1]; simp
  have z2 : W2.heap.size = w.heap.size + 1 + 1 := by rw [← hW2]; simp [z1]
  have z3 : W3.heap.size = w.heap.size + 1 + 1 + 1 := by rw [← hW3]; simp [z2]
  have b01 : Below w.heap.size w W1 := by rw [← hW1]; exact (Below.refl _ w).alloc (Nat.le_refl _) _
  have b12 : Below W1.heap.size W1 W2 := by rw [← hW2]; exact (Below.refl _ W1).alloc (Nat.le_refl _) _
  have b23 : Below W2.heap.size W2 W3 := by rw [← hW3]; exact (Below.refl _ W2).alloc (Nat.le_refl _) _
  have b34 : Below W3.heap.size W3 W4 := by rw [← hW4]; exact (Below.refl _ W3).alloc (Nat.le_refl _) _
  have b24 := b23.trans (b34.mono b23.size)
  have b14 := b12.trans (b24.mono b12.size)
  have b04 := b01.trans (b14.mono b01.size)
  have y0 : W4.heap[w.heap.size]? = some (.cells #[.string ⟨n.toArray⟩, .slice (some ⟨w.heap.size + 1 + 1 + 1, 0, none⟩) 2 2] 39 (0, 0)) := by
    refine obj_below (w := W1) ?_ b14 (by omega)
    rw [← hW1]; exact heap_alloc_new w _
  have t1 : TxR W4 (.slice (some ⟨w.heap.size + 1, 0, none⟩) 1 1) [[100, 111, 109, 97, 105, 110]] := by
    refine txR_below (w := W2) ?_ b24
    rw [← hW2, ← z1]; exact txR_new W1 [[100, 111, 109, 97, 105, 110]] 9
  have t2 : TxR W4 (.slice (some ⟨w.heap.size + 1 + 1, 0, none⟩) 1 1) [v] := by
    refine txR_below (w := W3) ?_ b34
    rw [← hW3, ← z2]; exact txR_new W2 [v] 9
  have y4 : W4.heap[w.heap.size + 1 + 1 + 1]? = some (.cells (atcs [([111, 98, 106, 101, 99, 116, 99, 108, 97, 115, 115], .slice (some ⟨w.heap.size + 1, 0, none⟩) 1 1), ([100, 99], .slice (some ⟨w.heap.size + 1 + 1, 0, none⟩) 1 1)]).toArray 81 (0, 0)) := by
    rw [← hW4, ← z3]; exact heap_alloc_new W3 _
  have hea : EaAt W4 (.slice (some ⟨w.heap.size + 1 + 1 + 1, 0, none⟩) 2 2) (domA v) := by
    obtain ⟨q0, q1⟩ := (show W4.cell? ⟨w.heap.size + 1 + 1 + 1, 0, none⟩ = _ ∧ W4.cell? ⟨w.heap.size + 1 + 1 + 1, 1, none⟩ = _ from ⟨obj_cell y4 0 _ rfl, obj_cell y4 1 _ rfl⟩)
    have q2 := obj_cell y4 2 _ rfl
    have q3 := obj_cell y4 3 _ rfl
    have hz := obj_lt y4
    refine ⟨.inr ⟨_, _, _, rfl⟩, _, 2, rfl, fun i hi => ?_⟩
    have hi : i < 2 := hi
    match i, hi with
    | 0, _ => exact ⟨_, 0, _, rfl, hz, q0, q1, t1, .inr ⟨_, _, _, rfl⟩⟩
    | 1, _ => exact ⟨_, 0, _, rfl, hz, q2, q3, t2, .inr ⟨_, _, _, rfl⟩⟩
  obtain ⟨x0, x1⟩ := obj2s y0
  have HW := Lib.hid (And.intro hW1 (And.intro hW2 (And.intro hW3 hW4)))
  have H := Lib.hid (And.intro hea b04)
  clear hW1 hW2 hW3 hW4 z1 z2 z3 b01 b12 b23 b34 b24 b14 b04 y0 t1 t2 y4 hea
  go_enter Tryz.func27, Tryz.ntmps27
  go_wp2_with fail
  rw [HW.out.1, HW.out.2.1, HW.out.2.2.1, HW.out.2.2.2]
  refine bodyPost_ret (v := .agg #[.string ⟨n.toArray⟩, .slice (some ⟨w.heap.size + 1 + 1 + 1, 0, none⟩) 2 2]) (by simp [results, Tryz.results27, go_sem, x0, x1]) rfl ?_
  exact ⟨_, rfl, H.out.1, H.out.2⟩
theorem paAt_slice3 {w : World} {v : Value} {A : List Atr} (h : PaAt w v A) : ∃ a n c, v = .slice a n c ∧ n = A.length := by
  obtain ⟨a, c, e⟩ := paAt_slice h
  exact ⟨a, _, c, e, rfl⟩
end Go.Proofs.YtbmnpjkcomcboaaGreatDoor
namespace Go.Proofs.YtbmnpjkcomcboaaGreatDoor
set_option linter.unusedSimpArgs false
set_option linter.unusedVariables false
open Go Go.RowKit Go.Proofs.BerK Go.Proofs.MemK Go.Proofs.UtfK Go.Maps Go.WideMaps

set_option maxHeartbeats 25600000 in
set_option maxRecDepth 100000 in
theorem dtaw_any (w : World) (he : ErrOk w) : Calls Tryz.prog 8 #[] w (BB true w) := by
  have HE := Lib.hid he
  have HPl := Lib.hid (plain_any w)
  clear he
  go_enter Tryz.func8, Tryz.ntmps8
  go_wp2_with fail
  refine HPl.out.mono ?_
  rintro en w1 ⟨sb, rfl, hsc, hb1⟩
  have HWl := Lib.hid (show Wld w1 sb from fun w' hb => ⟨scAt_below hsc hb, errOk_below HE.out (hb1.trans (hb.mono hb1.size))⟩)
  have HB1 := Lib.hid hb1
  clear hsc hb1
  go_wp2_with fail
  refine (dtnew_any (some ⟨sb, 0, none⟩) w1).mono ?_
  rintro en w2 ⟨g, S0, rfl, htr, hS, hg, hb2, _⟩
  have H0 := Lib.hid (show TIn w1 w2 sb g S0 [] from ⟨htr, hb2, trL_nil, by decide⟩)
  clear htr hS hg hb2
  go_wp2_with fail
  refine (dtdom_any nAB [97] w2).mono ?_
  rintro en w3 ⟨b3, rfl, hed, hbd⟩
  have H3 := Lib.hid (And.intro (tin_below H0.out hbd) hed)
  clear hed hbd
  have HT3 := Lib.hid H3.out.1
  go_wp2_with fail
  refine (tin_addc (L' := []) aw_a (addL_no aw_a (by decide)) HWl.out HT3.out H3.out.2 (fewz_dom _ (by decide)) (by decide)).mono ?_
  rintro en w4 ⟨rfl, S4, ht, hc, hs⟩
  have HT4 := Lib.hid ht
  clear ht hc hs
  go_wp2_with fail
  refine (dtdom_any nB [66] w4).mono ?_
  rintro en w5 ⟨b5, rfl, hed, hbd⟩
  have H5 := Lib.hid (And.intro (tin_below HT4.out hbd) hed)
  clear hed hbd
  have HT5 := Lib.hid H5.out.1
  go_wp2_with fail
  refine (tin_addc (L' := aw1) aw_b aw_b2 HWl.out HT5.out H5.out.2 (fewz_dom _ (by decide)) (by decide)).mono ?_
  rintro en w6 ⟨rfl, S6, ht, hc, hs⟩
  have HT6 := Lib.hid ht
  clear ht hc hs
  go_wp2_with fail
  refine (dtdom_any nAB [97] w6).mono ?_
  rintro en w7 ⟨b7, rfl, hed, hbd⟩
  have H7 := Lib.hid (And.intro (tin_below HT6.out hbd) hed)
  clear hed hbd
  have HT7 := Lib.hid H7.out.1
  go_wp2_with fail
  refine (tin_addc (L' := aw2) aw_c aw_c2 HWl.out HT7.out H7.out.2 (fewz_dom _ (by decide)) (by decide)).mono ?_
  rintro en w8 ⟨rfl, S8, ht, hc, hs⟩
  have HT8 := Lib.hid ht
  clear ht hc hs
  go_wp2_with fail
  refine (dtdom_any nB [98] w8).mono ?_
  rintro en w9 ⟨b9, rfl, hed, hbd⟩
  have H9 := Lib.hid (And.intro (tin_below HT8.out hbd) hed)
  clear hed hbd
  have HT9 := Lib.hid H9.out.1
  go_wp2_with fail
  refine (tin_addc (L' := aw2) aw_d (addL_no aw_d (by decide)) HWl.out HT9.out H9.out.2 (fewz_dom _ (by decide)) (by decide)).mono ?_
  rintro en w10 ⟨rfl, S10, ht, hc, hs⟩
  have HT10 := Lib.hid ht
  clear ht hc hs
  go_wp2_with fail
  refine (dtdom_any nC [120] w10).mono ?_
  rintro en w11 ⟨b11, rfl, hed, hbd⟩
  have H11 := Lib.hid (And.intro (tin_below HT10.out hbd) hed)
  clear hed hbd
  have HT11 := Lib.hid H11.out.1
  go_wp2_with fail
  refine (tin_addc (L' := aw2) aw_e (addL_no aw_e (by decide)) HWl.out HT11.out H11.out.2 (fewz_dom _ (by decide)) (by decide)).mono ?_
  rintro en w12 ⟨rfl, S12, ht, hc, hs⟩
  have HT12 := Lib.hid ht
  clear ht hc hs
  go_wp2_with fail
  refine (tin_delc (L' := aw2) aw_f (delL_no aw_f (by decide)) HWl.out HT12.out (by decide)).mono ?_
  rintro en w13 ⟨rfl, S13, ht, hc, hs⟩
  have HT13 := Lib.hid ht
  clear ht hc hs
  go_wp2_with fail
  refine (dtget_any _ g _ S13 aw2 nB w13 HT13.out.1 (by decide) (by decide +kernel)).mono ?_
  rintro en w14 ⟨_, hge, hbg⟩
  obtain ⟨xv, rfl, hpx⟩ := hge _ aw_j
  obtain ⟨xa, xn, xc, rfl, hxn⟩ := paAt_slice3 hpx
  obtain rfl : xn = 2 := hxn
  have HT14 := Lib.hid (tin_below HT13.out hbg)
  clear hge hbg hpx
  obtain ⟨W, hW⟩ : ∃ W, w14.alloc (.cells #[.string ⟨nB.toArray⟩, .slice xa 2 xc] 39) = W := ⟨_, rfl⟩
  have hbW : Below w14.heap.size w14 W := by rw [← hW]; exact (Below.refl _ _).alloc (Nat.le_refl _) _
  have yW : W.heap[w14.heap.size]? = some (.cells #[.string ⟨nB.toArray⟩, .slice xa 2 xc] 39 (0, 0)) := by rw [← hW]; exact heap_alloc_new w14 _
  obtain ⟨xb, hxb⟩ : ∃ b, w14.heap.size = b := ⟨_, rfl⟩
  have HTW := Lib.hid (tin_below HT14.out hbW)
  have HBW := Lib.hid hbW
  have HWW := Lib.hid hW
  have HXb := Lib.hid hxb
  rw [hxb] at yW
  have HX0 := Lib.hid yW
  clear hbW hW yW hxb
  go_wp2_with fail
  rw [HWW.out]
  try rw [HXb.out]
  refine (dtcopy_any _ g _ S13 aw2 W HTW.out.1 HTW.out.2.2.1 (by decide)).mono ?_
  rintro en w15 ⟨g2, S2, rfl, hk, hk2, hk3, hbk⟩
  have hdis : ∀ k, S13 k → ¬ S2 k ∧ k ≠ g2 := fun k hq => by have := (trAt_isTr HTW.out.1 k hq).2.2.1; exact ⟨fun h2 => by have := hk2 k h2; omega, by omega⟩
  have HO15 := Lib.hid (And.intro hk hdis)
  have HT15 := Lib.hid (tin_below HTW.out hbk)
  have HX15 := Lib.hid (obj_below HX0.out hbk (obj_lt HX0.out))
  clear hk hk2 hk3 hbk hdis
  go_wp2_with fail
  refine (tin_delc (L' := aw1) aw_g.1 aw_g.2 HWl.out HT15.out (by decide)).mono ?_
  rintro en w16 ⟨rfl, S16, ht, hc, hs⟩
  have HX16 := Lib.hid (box_keep HT15.out hc HX15.out (by decide))
  have HO16 := Lib.hid (tr_other HO15.out.1 HT15.out HO15.out.2 hc hs)
  have HT16 := Lib.hid ht
  clear ht hc hs
  go_wp2_with fail
  refine (tin_delc (L' := aw1) aw_h (delL_no aw_h (by decide)) HWl.out HT16.out (by decide)).mono ?_
  rintro en w17 ⟨rfl, S17, ht, hc, hs⟩
  have HX17 := Lib.hid (box_keep HT16.out hc HX16.out (by decide))
  have HO17 := Lib.hid (tr_other HO16.out.1 HT16.out HO16.out.2 hc hs)
  have HT17 := Lib.hid ht
  clear ht hc hs
  obtain ⟨x0, x1⟩ := obj2s HX17.out
  go_wp2_with fail
  refine (dtnames_any _ g2 _ S2 aw2 w17 HO17.out.1 HTW.out.2.2.1 (by decide)).mono ?_
  rintro en v1 ⟨nv, rfl, hnr, hb⟩
  obtain ⟨na, nc, rfl⟩ := ownsRow_slice hnr
  have tx := txR_owns hnr
  obtain ⟨V, hV⟩ : ∃ V, v1.alloc (.cells #[.string ⟨#[100, 99, 61, 98]⟩, .string ⟨#[100, 99, 61, 97, 44, 100, 99, 61, 98]⟩] 9) = V := ⟨_, rfl⟩
  have hbv : Below v1.heap.size v1 V := by rw [← hV]; exact (Below.refl _ _).alloc (Nat.le_refl _) _
  have tv : TxR V (.slice (some ⟨v1.heap.size, 0, none⟩) 2 2) [nB, nAB] := by rw [← hV]; exact txR_new v1 [nB, nAB] 9
  have hbb := hb.trans (hbv.mono hb.size)
  have HTe := Lib.hid (textr_any (aw2.map (·.1)) [nB, nAB] _ _ V (txR_below tx hbv) tv (by decide) (by decide))
  rw [show decide (aw2.map (·.1) = [nB, nAB]) = true by decide +kernel] at HTe
  have HTv := Lib.hid (tin_below HT17.out hbb)
  have HOv := Lib.hid (trAt_below HO17.out.1 hbb)
  have HV := Lib.hid hV
  rw [show (aw2.map (·.1)).length = 2 by decide] at HTe ⊢
  clear hnr tx hbv tv hbb hb hV x0 x1
  go_wp2_with fail
  rw [HV.out]
  refine HTe.out.mono ?_
  rintro en v2 ⟨rfl, hb⟩
  have HTa := Lib.hid (tin_below HTv.out hb)
  have HOa := Lib.hid (trAt_below HOv.out hb)
  clear hb
  go_wp2_with fail
  refine (dtlen_any _ g2 _ S2 aw2 v2 HOa.out).mono ?_
  rintro en v3 ⟨rfl, rfl⟩
  rw [show (aw2.length : Nat) = 2 from rfl]
  go_wp2_with fail
  refine (dtlen_any _ g _ S17 aw1 v2 HTa.out.1).mono ?_
  rintro en v4 ⟨rfl, rfl⟩
  rw [show (aw1.length : Nat) = 1 from rfl]
  go_wp2_with fail
  refine (dtdom_any nX [120] v2).mono ?_
  rintro en w18 ⟨b18, rfl, hed, hbd⟩
  have H18 := Lib.hid (And.intro (tin_below HTa.out hbd) hed)
  clear hed hbd
  have HT18 := Lib.hid H18.out.1
  go_wp2_with fail
  refine (tin_addc (L' := aw1) aw_i (addL_no aw_i (by decide)) HWl.out HT18.out H18.out.2 (fewz_dom _ (by decide)) (by decide)).mono ?_
  rintro en w19 ⟨rfl, S19, ht, hc, hs⟩
  have HT19 := Lib.hid ht
  clear ht hc hs
  go_wp2
  go_ret
  exact bB_mk rfl (HB1.out.trans (HT19.out.2.1.mono HB1.out.size))
end Go.Proofs.YtbmnpjkcomcboaaGreatDoor
