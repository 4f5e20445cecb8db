/- The code's slices.Clone of texts; Type and Class of a schema. The code's slices.Clone of texts; Type and Class of a schema. The code's typesOf: the types of attributes. -/
import Derived.Test.YtcfckgpjdaadeaaGreatDoorSnGI
import Derived.Test.YtcfckgpjdaadeaaGreatDoorSnCD
import Derived.Test.YtcfckgpjdaadeaaGreatDoorGenB
import Derived.WalkSpells
import Derived.Deep.RegionHeld3
import Derived.Test.YtcfckgpjdaadeaaGreatDoorSnEF
import Derived.Test.YtcfckgpjdaadeaaGreatDoorScCD
namespace Go.Proofs.YtcfckgpjdaadeaaGreatDoor
set_option linter.unusedSimpArgs false
set_option linter.unusedVariables false
open Go Go.RowKit Go.Proofs.BerK Go.Proofs.MemK Go.Proofs.UtfK

/-- Texts in a row of the call's own. -/
def ClonePost (l : List (List UInt8)) (w : World) (en : Ending) (w' : World) : Prop :=
  ∃ a c, en = .returned (.slice a l.length c) ∧ w'.ownsRow w.heap.size 9 1 (.slice a l.length c) l.length (sc l) ∧ Below w.heap.size w w'
theorem owns_empty (w : World) (e : TypeId) : (w.alloc (.cells #[] e)).ownsRow w.heap.size e 1 (.slice (some ⟨w.heap.size, 0, none⟩) 0 0) 0 [] :=
  ⟨rfl, .inr ⟨w.heap.size, 0, #[], rfl, Nat.le_refl _, heap_alloc_new w _, Nat.le_refl _, Nat.zero_le _, rfl, rfl⟩⟩
set_option maxHeartbeats 800000 in
set_option maxRecDepth 100000 in
theorem snclone_any (l : List (List UInt8)) (v : Value) (w : World) (h : TxR w v l) (hk : SlOk v) (hl : l.length ≤ 1000000) :
    Calls Tryz.prog 40 #[v] w (ClonePost l w) := by
  have hr := rd_txR h hk
  obtain ⟨a, c, rfl, _⟩ := h
  rcases hk with hk | ⟨ad, n, c', hk⟩
  · injection hk with h1 h2 h3
    subst h1 h3
    have hq : ∀ w : World, (binOp .eql 38 (.slice none l.length 0) (.slice none 0 0)).run Tryz.prog w = .ok (.bool true) w := fun w => by rw [h2]; kernel_rfl
    have HL := Lib.hid h2
    clear h2 hr hl
    go_enter Tryz.func40, Tryz.ntmps40
    go_wp2
    go_ret
    obtain rfl : l = [] := List.eq_nil_of_length_eq_zero HL.out
    exact ⟨none, 0, rfl, ⟨rfl, .inl ⟨rfl, rfl⟩⟩, Below.refl _ _⟩
  · injection hk with h1 h2 h3
    subst h1
    have hq : ∀ w : World, (binOp .eql 38 (.slice (some ad) l.length c) (.slice none 0 0)).run Tryz.prog w = .ok (.bool false) w := fun w => by kernel_rfl
    have hr1 : RdRow (w.alloc (.cells #[] 9)) 1 (.slice (some ad) l.length c) l.length (sc l) := rdRow_below hr ((Below.refl _ w).alloc (Nat.le_refl _) _)
    have HR := Lib.hid (And.intro hr1 (owns_empty w 9))
    obtain ⟨n1, hn1⟩ : ∃ n, l.length = n := ⟨_, rfl⟩
    have HN := Lib.hid hn1
    rw [hn1] at HR hl hq ⊢
    clear hr hr1 h2 h3 hn1
    go_enter Tryz.func40, Tryz.ntmps40
    go_wp2_with (at_builtin; refine wpList_appendr rfl (.tmp 5) (.tmp 6) 38 9 rfl w.heap.size 1 16 _ Tryz.sninfo9 Tryz.underlying38 rfl (by decide) _ 0 [] rfl HR.out.2 _ n1 (sc l) rfl HR.out.1 (sc_one_cell l) (by unfold maxLen; omega) (by omega) (by simp) ?_; intro v' w' h1 h2 h3)
    rw [Nat.zero_add] at h1
    obtain ⟨na, nc, rfl⟩ := ownsRow_slice h1
    have hc : Chg (fun k => some k = (Value.slice (some ⟨w.heap.size, 0, none⟩) 0 0).ownBlock) (w.alloc (.cells #[] 9)) w' := h2
    have hb : Below w.heap.size w w' := ((Below.refl _ w).alloc (Nat.le_refl _) _).trans (hc.toBelow (by simp) (fun k _ hk => by injection hk with hk; have hk : k = w.heap.size := hk; omega))
    clear h2 h3
    go_ret
    have hn := HN.out
    subst hn
    exact ⟨na, nc, rfl, h1, hb⟩
/-! ### Type -/
theorem getD_bind {α : Type} (T : List α) (i : Nat) (h : i < T.length) : (some i).bind (fun i => T[i]?) = some T[i] := by simp [h]
set_option maxHeartbeats 400000 in
set_option maxRecDepth 100000 in
theorem stype_nil (s : ByteArray) (w : World) : Calls Tryz.prog 12 #[.pointer none, .string s] w (TyPost none w) := by
  go_enter Tryz.func12, Tryz.ntmps12
  go_wp2
  refine bodyPost_ret (v := TyV none) (by simp [results, Tryz.results12, go_sem, TyV, *]; try rfl) rfl ?_
  exact ⟨rfl, (Below.refl _ _).alloc (Nat.le_refl _) _⟩
set_option maxHeartbeats 1600000 in
set_option maxRecDepth 100000 in
theorem stype_any (g : Nat) (T : List Ty) (C : List Cl) (s : List UInt8) (w : World) (h : ScAt w g T C) (hlow : LowT T) (hs : s.length ≤ 140737488355328) (hlen : T.length ≤ 1024) :
    Calls Tryz.prog 12 #[.pointer (some ⟨g, 0, none⟩), .string ⟨s.toArray⟩] w (TyPost (scT T s) w) := by
  have hix := scT_ixl hlow s
  have HLo := Lib.hid (fun w => show Calls Tryz.prog 38 #[.string ⟨s.toArray⟩] w (StrPost (lowL s) w) from lower_any ⟨s.toArray⟩ w)
  have hll : (lowL s).length ≤ 140737488355328 := by simpa [lowL] using hs
  obtain ⟨LS, hLS⟩ : ∃ x, lowL s = x := ⟨_, rfl⟩
  rw [hLS] at HLo hix hll
  have HP := Lib.hid (fun w' (hb : Below w.heap.size w w') => (show Calls Tryz.prog 37 #[.pointer (some ⟨g, 0, none⟩), .string ⟨LS.toArray⟩] w' (PlPost (ixL (T.map (·.1)) LS) w') by
    obtain ⟨m1, a1, n1, c1, m2, a2, n2, c2, h1, h2, _⟩ := scAt_below h hb
    exact place_any g 0 m1 _ LS w' (obj4 h1).1 h2 hll))
  obtain ⟨R, hR⟩ : ∃ R, scT T s = R := ⟨_, rfl⟩
  rw [hR] at hix ⊢
  have HS := Lib.hid h
  have hb0 : Below w.heap.size w (w.alloc (.cells #[.string ⟨#[]⟩, .int .i64 0, .bool false] 35)) := (Below.refl _ w).alloc (Nat.le_refl _) _
  have x0 : (w.alloc (.cells #[.string ⟨#[]⟩, .int .i64 0, .bool false] 35)).heap[w.heap.size]? = some (.cells #[.string ⟨#[]⟩, .int .i64 0, .bool false] 35 (0, 0)) := heap_alloc_new w _
  obtain ⟨W0, hW0⟩ : ∃ W0, w.alloc (.cells #[.string ⟨#[]⟩, .int .i64 0, .bool false] 35) = W0 := ⟨_, rfl⟩
  rw [hW0] at hb0 x0
  have HW0 := Lib.hid hW0
  have hz0 : w.heap.size < W0.heap.size := obj_lt x0
  have HX := Lib.hid (And.intro hb0 x0)
  have hgl := scAt_lt h
  cases hq : ixL (T.map (·.1)) LS with
  | none =>
    rw [hq] at hix HP
    have HR := Lib.hid (show R = none from hix)
    have HP2 := Lib.hid (fun w' (hb : Below w.heap.size w w') => (show Calls Tryz.prog 37 #[.pointer (some ⟨g, 0, none⟩), .string ⟨LS.toArray⟩] w' (fun en w'' => en = .returned (.tuple #[.int .i64 0, .bool false]) ∧ w' = w'') from HP.out w' hb))
    clear HP h hLS hll hR hix hW0 hb0 x0 hq
    go_enter Tryz.func12, Tryz.ntmps12
    go_wp2
    rw [HW0.out]
    go_region_held3 (fun _ => True) (exact trivial) (first
      | (go_at_call 38; (with_reducible refine (HLo.out _).mono ?_); rintro en w5 ⟨rfl, hb5⟩; have hbW : Below W0.heap.size W0 w5 := (Below.refl _ W0).drew.trans hb5)
      | (go_at_call 37; (with_reducible refine (HP2.out _ (HX.out.1.trans (hbW.mono HX.out.1.size))).mono ?_); rintro en w6 ⟨rfl, rfl⟩))
    have x5 := obj_below HX.out.2 hbW hz0
    have HB := Lib.hid (And.intro (HX.out.1.trans (hbW.mono HX.out.1.size)) x5)
    obtain ⟨r0, r1, r2⟩ := obj3 x5
    have f0 := obj_free x5 0
    have f1 := obj_free x5 1
    have f2 := obj_free x5 2
    clear hb5 hbW x5
    go_wp2
    obtain ⟨j0, j1, j2⟩ := obj3 (obj_set3 HB.out.2 (.string ⟨#[]⟩) (.int .i64 0) (.bool false))
    refine bodyPost_ret (v := TyV none) (by simp [results, Tryz.results12, go_sem, TyV, *]) rfl ?_
    exact ⟨by rw [HR.out], below_set3 HB.out.1 (Nat.le_refl _) _ _ _⟩
  | some i =>
    rw [hq] at hix HP
    obtain ⟨hi0, hie⟩ := ix_some hq
    have hi : i < T.length := by simpa using hi0
    rw [getD_bind T i hi] at hix
    have HP2 := Lib.hid (fun w' (hb : Below w.heap.size w w') => (show Calls Tryz.prog 37 #[.pointer (some ⟨g, 0, none⟩), .string ⟨LS.toArray⟩] w' (fun en w'' => en = .returned (.tuple #[.int .i64 (i : Nat), .bool true]) ∧ w' = w'') from HP.out w' hb))
    obtain ⟨nm, hnm⟩ : ∃ x, T[i].1 = x := ⟨_, rfl⟩
    obtain ⟨rl, hrl⟩ : ∃ x, T[i].2.1 = x := ⟨_, rfl⟩
    obtain ⟨sg, hsg⟩ : ∃ x, T[i].2.2 = x := ⟨_, rfl⟩
    have HR := Lib.hid (show R = some (nm, rl, sg) by rw [hix, ← hnm, ← hrl, ← hsg])
    obtain ⟨n, hn⟩ : ∃ n, T.length = n := ⟨_, rfl⟩
    have HC := Lib.hid (show ∃ a1 c1 g1 o1, a1 = some (Addr.mk g1 o1 none) ∧ w.cell? ⟨g, 1, none⟩ = some (.slice a1 n c1) ∧ g1 < w.heap.size ∧ w.cell? ⟨g1, o1 + i * 3, none⟩ = some (.string ⟨nm.toArray⟩) ∧ w.cell? ⟨g1, o1 + i * 3 + 1, none⟩ = some (.int .i64 rl) ∧ w.cell? ⟨g1, o1 + i * 3 + 2, none⟩ = some (.bool sg) by
      obtain ⟨m1, a1, n1, c1, m2, a2, n2, c2, h1, _, ⟨a, c, e, h3⟩, _⟩ := h
      injection e with e1 e2 e3
      subst e1 e2 e3
      obtain ⟨g1, o1, e, h4, h5, h6, h7⟩ := h3 i hi
      rw [hnm] at h5
      rw [hrl] at h6
      rw [hsg] at h7
      refine ⟨a1, c1, g1, o1, e, ?_, h4, h5, h6, h7⟩
      have := (obj4 h1).2.1
      rw [hn] at this
      exact this)
    rw [hn] at hi hlen
    have hi' : (i : Int) < (n : Int) := by omega
    have hi'' : (0 : Int) ≤ (i : Int) := by omega
    clear HP h hLS hll hR hix hW0 hb0 x0 hq hie hi0 hnm hrl hsg hn
    obtain ⟨a1, c1, g1, o1, rfl, p1w, hg1, e0w, e1w, e2w⟩ := HC.out
    clear HC
    have HE := Lib.hid (And.intro p1w (And.intro e0w (And.intro e1w e2w)))
    clear p1w e0w e1w e2w
    go_enter Tryz.func12, Tryz.ntmps12
    go_wp2
    rw [HW0.out]
    go_region_held3 (fun _ => True) (exact trivial) (first
      | (go_at_call 38; (with_reducible refine (HLo.out _).mono ?_); rintro en w5 ⟨rfl, hb5⟩; have hbW : Below W0.heap.size W0 w5 := (Below.refl _ W0).drew.trans hb5)
      | (go_at_call 37; (with_reducible refine (HP2.out _ (HX.out.1.trans (hbW.mono HX.out.1.size))).mono ?_); rintro en w6 ⟨rfl, rfl⟩))
    have x5 := obj_below HX.out.2 hbW hz0
    have hw5 := HX.out.1.trans (hbW.mono HX.out.1.size)
    have HB := Lib.hid (And.intro hw5 x5)
    have p1 := (hw5.cell (p := ⟨g, 1, none⟩) hgl).trans HE.out.1
    have e0 := (hw5.cell (p := ⟨g1, _, none⟩) hg1).trans HE.out.2.1
    have e1 := (hw5.cell (p := ⟨g1, _, none⟩) hg1).trans HE.out.2.2.1
    have e2 := (hw5.cell (p := ⟨g1, _, none⟩) hg1).trans HE.out.2.2.2
    obtain ⟨r0, r1, r2⟩ := obj3 x5
    have f0 := obj_free x5 0
    have f1 := obj_free x5 1
    have f2 := obj_free x5 2
    clear hb5 hbW x5 hw5
    go_wp2
    obtain ⟨j0, j1, j2⟩ := obj3 (obj_set3 HB.out.2 (.string ⟨nm.toArray⟩) (.int .i64 rl) (.bool sg))
    refine bodyPost_ret (v := TyV (some (nm, rl, sg))) (by simp [results, Tryz.results12, go_sem, TyV, *]) rfl ?_
    exact ⟨by rw [HR.out], below_set3 HB.out.1 (Nat.le_refl _) _ _ _⟩
end Go.Proofs.YtcfckgpjdaadeaaGreatDoor
namespace Go.Proofs.YtcfckgpjdaadeaaGreatDoor
set_option linter.unusedSimpArgs false
set_option linter.unusedVariables false
open Go Go.RowKit Go.Proofs.BerK Go.Proofs.MemK Go.Proofs.UtfK

/-! ### Class -/
def SClV0 : Value := .tuple #[.agg #[.string ⟨#[]⟩, .slice none 0 0, .slice none 0 0], .bool false]
set_option maxHeartbeats 400000 in
set_option maxRecDepth 100000 in
theorem sclass_nil (s : ByteArray) (w : World) : Calls Tryz.prog 14 #[.pointer none, .string s] w (ClPost none w) := by
  go_enter Tryz.func14, Tryz.ntmps14
  go_wp2
  refine bodyPost_ret (v := SClV0) (by simp [results, Tryz.results14, go_sem, SClV0, *]; try rfl) rfl ?_
  exact .inl ⟨rfl, rfl, (Below.refl _ _).alloc (Nat.le_refl _) _⟩
set_option maxHeartbeats 1600000 in
set_option maxRecDepth 100000 in
theorem sclass_any (g : Nat) (T : List Ty) (C : List Cl) (s : List UInt8) (w : World) (h : ScAt w g T C) (hlow : LowC C) (hs : s.length ≤ 140737488355328) (hlen : C.length ≤ 1024) (hlm : ∀ c ∈ C, c.2.1.length ≤ 1000000 ∧ c.2.2.length ≤ 1000000) :
    Calls Tryz.prog 14 #[.pointer (some ⟨g, 0, none⟩), .string ⟨s.toArray⟩] w (ClPost (scC C s) w) := by
  have hix := scC_ixl hlow s
  have HLo := Lib.hid (fun w => show Calls Tryz.prog 38 #[.string ⟨s.toArray⟩] w (StrPost (lowL s) w) from lower_any ⟨s.toArray⟩ w)
  have hll : (lowL s).length ≤ 140737488355328 := by simpa [lowL] using hs
  obtain ⟨LS, hLS⟩ : ∃ x, lowL s = x := ⟨_, rfl⟩
  rw [hLS] at HLo hix hll
  have HP := Lib.hid (fun w' (hb : Below w.heap.size w w') => (show Calls Tryz.prog 37 #[.pointer (some ⟨g, 2, none⟩), .string ⟨LS.toArray⟩] w' (PlPost (ixL (C.map (·.1)) LS) w') by
    obtain ⟨m1, a1, n1, c1, m2, a2, n2, c2, h1, _, _, h2, _⟩ := scAt_below h hb
    exact place_any g 2 m2 _ LS w' (obj4 h1).2.2.1 h2 hll))
  obtain ⟨R, hR⟩ : ∃ R, scC C s = R := ⟨_, rfl⟩
  rw [hR] at hix ⊢
  have HS := Lib.hid h
  have hb0 : Below w.heap.size w (w.alloc (.cells #[.string ⟨#[]⟩, .slice none 0 0, .slice none 0 0] 40)) := (Below.refl _ w).alloc (Nat.le_refl _) _
  have x0 : (w.alloc (.cells #[.string ⟨#[]⟩, .slice none 0 0, .slice none 0 0] 40)).heap[w.heap.size]? = some (.cells #[.string ⟨#[]⟩, .slice none 0 0, .slice none 0 0] 40 (0, 0)) := heap_alloc_new w _
  obtain ⟨W0, hW0⟩ : ∃ W0, w.alloc (.cells #[.string ⟨#[]⟩, .slice none 0 0, .slice none 0 0] 40) = W0 := ⟨_, rfl⟩
  rw [hW0] at hb0 x0
  have HW0 := Lib.hid hW0
  have hz0 : w.heap.size < W0.heap.size := obj_lt x0
  have HX := Lib.hid (And.intro hb0 x0)
  have hgl := scAt_lt h
  cases hq : ixL (C.map (·.1)) LS with
  | none =>
    rw [hq] at hix HP
    have HR := Lib.hid (show R = none from hix)
    have HP2 := Lib.hid (fun w' (hb : Below w.heap.size w w') => (show Calls Tryz.prog 37 #[.pointer (some ⟨g, 2, none⟩), .string ⟨LS.toArray⟩] w' (fun en w'' => en = .returned (.tuple #[.int .i64 0, .bool false]) ∧ w' = w'') from HP.out w' hb))
    clear HP h hLS hll hR hix hW0 hb0 x0 hq
    go_enter Tryz.func14, Tryz.ntmps14
    go_wp2
    rw [HW0.out]
    go_region_held3 (fun _ => True) (exact trivial) (first
      | (go_at_call 38; (with_reducible refine (HLo.out _).mono ?_); rintro en w5 ⟨rfl, hb5⟩; have hbW : Below W0.heap.size W0 w5 := (Below.refl _ W0).drew.trans hb5)
      | (go_at_call 37; (with_reducible refine (HP2.out _ (HX.out.1.trans (hbW.mono HX.out.1.size))).mono ?_); rintro en w6 ⟨rfl, rfl⟩))
    have x5 := obj_below HX.out.2 hbW hz0
    have HB := Lib.hid (And.intro (HX.out.1.trans (hbW.mono HX.out.1.size)) x5)
    obtain ⟨r0, r1, r2⟩ := obj3 x5
    have f0 := obj_free x5 0
    have f1 := obj_free x5 1
    have f2 := obj_free x5 2
    clear hb5 hbW x5
    go_wp2
    obtain ⟨j0, j1, j2⟩ := obj3 (obj_set3 HB.out.2 (.string ⟨#[]⟩) (.slice none 0 0) (.slice none 0 0))
    refine bodyPost_ret (v := SClV0) (by simp [results, Tryz.results14, go_sem, SClV0, *]) rfl ?_
    exact .inl ⟨HR.out, rfl, below_set3 HB.out.1 (Nat.le_refl _) _ _ _⟩
  | some i =>
    rw [hq] at hix HP
    obtain ⟨hi0, hie⟩ := ix_some hq
    have hi : i < C.length := by simpa using hi0
    rw [getD_bind C i hi] at hix
    have HP2 := Lib.hid (fun w' (hb : Below w.heap.size w w') => (show Calls Tryz.prog 37 #[.pointer (some ⟨g, 2, none⟩), .string ⟨LS.toArray⟩] w' (fun en w'' => en = .returned (.tuple #[.int .i64 (i : Nat), .bool true]) ∧ w' = w'') from HP.out w' hb))
    have hlmi := hlm _ (List.getElem_mem hi)
    obtain ⟨nm, hnm⟩ : ∃ x, C[i].1 = x := ⟨_, rfl⟩
    obtain ⟨MU, hMU⟩ : ∃ x, C[i].2.1 = x := ⟨_, rfl⟩
    obtain ⟨MA, hMA⟩ : ∃ x, C[i].2.2 = x := ⟨_, rfl⟩
    rw [hMU, hMA] at hlmi
    have HR := Lib.hid (show R = some (nm, MU, MA) by rw [hix, ← hnm, ← hMU, ← hMA])
    obtain ⟨n, hn⟩ : ∃ n, C.length = n := ⟨_, rfl⟩
    have HC := Lib.hid (show ∃ a1 c1 g1 o1 a3 n3 c3 a4 n4 c4, a1 = some (Addr.mk g1 o1 none) ∧ w.cell? ⟨g, 3, none⟩ = some (.slice a1 n c1) ∧ g1 < w.heap.size ∧ w.cell? ⟨g1, o1 + i * 3, none⟩ = some (.string ⟨nm.toArray⟩) ∧ w.cell? ⟨g1, o1 + i * 3 + 1, none⟩ = some (.slice a3 n3 c3) ∧ w.cell? ⟨g1, o1 + i * 3 + 2, none⟩ = some (.slice a4 n4 c4) ∧ TxR w (.slice a3 n3 c3) MU ∧ TxR w (.slice a4 n4 c4) MA ∧ SlOk (.slice a3 n3 c3) ∧ SlOk (.slice a4 n4 c4) by
      obtain ⟨m1, a1, n1, c1, m2, a2, n2, c2, h1, _, _, _, ⟨a, c, e, h3⟩⟩ := h
      injection e with e1 e2 e3
      subst e1 e2 e3
      obtain ⟨g1, o1, mu, ma, e, h4, h5, h6, h7, t1, t2, s1, s2⟩ := h3 i hi
      obtain ⟨a3, n3, c3, rfl⟩ := slOk_form s1
      obtain ⟨a4, n4, c4, rfl⟩ := slOk_form s2
      rw [hnm] at h5
      rw [hMU] at t1
      rw [hMA] at t2
      refine ⟨a2, c2, g1, o1, a3, n3, c3, a4, n4, c4, e, ?_, h4, h5, h6, h7, t1, t2, s1, s2⟩
      have := (obj4 h1).2.2.2
      rw [hn] at this
      exact this)
    rw [hn] at hi hlen
    have hi' : (i : Int) < (n : Int) := by omega
    have hi'' : (0 : Int) ≤ (i : Int) := by omega
    clear HP h hLS hll hR hix hW0 hb0 x0 hq hie hi0 hnm hMU hMA hn hlm
    obtain ⟨a1, c1, g1, o1, a3, n3, c3, a4, n4, c4, rfl, p1w, hg1, e0w, e1w, e2w, tU, tA, sU, sA⟩ := HC.out
    clear HC
    have HE := Lib.hid (And.intro p1w (And.intro e0w (And.intro e1w e2w)))
    have HCU := Lib.hid (fun w' (hb : Below w.heap.size w w') => snclone_any MU (.slice a3 n3 c3) w' (txR_below tU hb) sU hlmi.1)
    have HCA := Lib.hid (fun w' (hb : Below w.heap.size w w') => snclone_any MA (.slice a4 n4 c4) w' (txR_below tA hb) sA hlmi.2)
    clear p1w e0w e1w e2w tU tA sU sA hlmi
    go_enter Tryz.func14, Tryz.ntmps14
    go_wp2
    rw [HW0.out]
    go_region_held3 (fun _ => True) (exact trivial) (first
      | (go_at_call 38; (with_reducible refine (HLo.out _).mono ?_); rintro en w5 ⟨rfl, hb5⟩; have hbW : Below W0.heap.size W0 w5 := (Below.refl _ W0).drew.trans hb5)
      | (go_at_call 37; (with_reducible refine (HP2.out _ (HX.out.1.trans (hbW.mono HX.out.1.size))).mono ?_); rintro en w6 ⟨rfl, rfl⟩))
    have x5 := obj_below HX.out.2 hbW hz0
    have hw5 := HX.out.1.trans (hbW.mono HX.out.1.size)
    have p1 := (hw5.cell (p := ⟨g, 3, none⟩) hgl).trans HE.out.1
    have e0 := (hw5.cell (p := ⟨g1, _, none⟩) hg1).trans HE.out.2.1
    have e1 := (hw5.cell (p := ⟨g1, _, none⟩) hg1).trans HE.out.2.2.1
    have e2 := (hw5.cell (p := ⟨g1, _, none⟩) hg1).trans HE.out.2.2.2
    have hz5 : w.heap.size < w5.heap.size := obj_lt x5
    obtain ⟨W6, hW6⟩ : ∃ W6, w5.alloc (.cells #[.string ⟨nm.toArray⟩, .slice a3 n3 c3, .slice a4 n4 c4] 40) = W6 := ⟨_, rfl⟩
    have hb56 : Below w5.heap.size w5 W6 := by rw [← hW6]; exact (Below.refl _ w5).alloc (Nat.le_refl _) _
    have y6 : W6.heap[w5.heap.size]? = some (.cells #[.string ⟨nm.toArray⟩, .slice a3 n3 c3, .slice a4 n4 c4] 40 (0, 0)) := by rw [← hW6]; exact heap_alloc_new w5 _
    have HW6 := Lib.hid hW6
    have HB := Lib.hid (And.intro (hw5.trans (hb56.mono hw5.size)) (And.intro (obj_below x5 hb56 hz5) y6))
    have hz6 : w5.heap.size < W6.heap.size := obj_lt y6
    clear hb5 hbW x5 hw5 hW6 hb56 y6
    go_wp2
    rw [HW6.out]
    clear p1 e0 e1 e2
    obtain ⟨d0, d1, d2⟩ := obj3 HB.out.2.2
    obtain ⟨r0, r1, r2⟩ := obj3 HB.out.2.1
    have g0 := obj_free HB.out.2.1 0
    have g1' := obj_free HB.out.2.1 1
    have g2 := obj_free HB.out.2.1 2
    have hne : w5.heap.size ≠ w.heap.size := by omega
    have hz1 : w.heap.size < W6.heap.size := by omega
    have HW := Lib.hid HB.out.1
    go_region_held3 (fun w' => w'.cell? ⟨w5.heap.size, 0, none⟩ = some (.string ⟨nm.toArray⟩) ∧ w'.cell? ⟨w5.heap.size, 1, none⟩ = some (.slice a3 n3 c3) ∧ w'.cell? ⟨w5.heap.size, 2, none⟩ = some (.slice a4 n4 c4)) (first | exact ⟨e0, e1, e2⟩ | exact ⟨d0, d1, d2⟩ | exact ⟨(cell_other3 hne _ _ _ _ _ _ _).trans e0, (cell_other3 hne _ _ _ _ _ _ _).trans e1, (cell_other3 hne _ _ _ _ _ _ _).trans e2⟩ | go_keep)
      (first
      | (go_at_call 40; (with_reducible refine (HCU.out _ (HW.out.drew)).mono ?_); rintro en w7 ⟨ua, uc, rfl, rU, hb7⟩; have hbX : Below W6.heap.size W6 w7 := (Below.refl _ W6).drew.trans hb7; have e0 := (hbX.cell (p := ⟨w5.heap.size, 0, none⟩) hz6).trans d0; have e1 := (hbX.cell (p := ⟨w5.heap.size, 1, none⟩) hz6).trans d1; have e2 := (hbX.cell (p := ⟨w5.heap.size, 2, none⟩) hz6).trans d2; have s0 := (hbX.cell (p := ⟨w.heap.size, 0, none⟩) hz1).trans r0; have s1 := (hbX.cell (p := ⟨w.heap.size, 1, none⟩) hz1).trans r1; have s2 := (hbX.cell (p := ⟨w.heap.size, 2, none⟩) hz1).trans r2; have k0 := (hbX.frozen (p := ⟨w.heap.size, 0, none⟩) hz1).trans g0; have k1 := (hbX.frozen (p := ⟨w.heap.size, 1, none⟩) hz1).trans g1'; have k2 := (hbX.frozen (p := ⟨w.heap.size, 2, none⟩) hz1).trans g2)
      | (go_at_call 40; (with_reducible refine (HCA.out _ (HW.out.trans (hbX.mono HW.out.size))).mono ?_); rintro en w8 ⟨va, vc, rfl, rV, hb8⟩; have hbX := hbX.trans (hb8.mono hbX.size); have rU := ownsRow_below rU hb8; have e0 := (hbX.cell (p := ⟨w5.heap.size, 0, none⟩) hz6).trans d0; have e1 := (hbX.cell (p := ⟨w5.heap.size, 1, none⟩) hz6).trans d1; have e2 := (hbX.cell (p := ⟨w5.heap.size, 2, none⟩) hz6).trans d2; have s0 := (hbX.cell (p := ⟨w.heap.size, 0, none⟩) hz1).trans r0; have s1 := (hbX.cell (p := ⟨w.heap.size, 1, none⟩) hz1).trans r1; have s2 := (hbX.cell (p := ⟨w.heap.size, 2, none⟩) hz1).trans r2; have k0 := (hbX.frozen (p := ⟨w.heap.size, 0, none⟩) hz1).trans g0; have k1 := (hbX.frozen (p := ⟨w.heap.size, 1, none⟩) hz1).trans g1'; have k2 := (hbX.frozen (p := ⟨w.heap.size, 2, none⟩) hz1).trans g2))
    have hw8 := obj_below HB.out.2.1 hbX hz1
    have hrU := (rU.lt · ·)
    have HF := Lib.hid (And.intro hw8 (And.intro (HB.out.1.trans (hbX.mono HB.out.1.size)) (And.intro rU rV)))
    have hs7 := hb7.size
    have hs7' : W6.heap.size ≤ w7.heap.size := hs7
    clear hbX hb7 hb8 rU rV hw8 e0 e1 e2 d0 d1 d2 r0 r1 r2 g0 g1' g2 hrU hs7
    go_wp2
    obtain ⟨j0, j1, j2⟩ := obj3 (obj_set3 HF.out.1 (.string ⟨nm.toArray⟩) (.slice ua MU.length uc) (.slice va MA.length vc))
    refine bodyPost_ret (v := .tuple #[.agg #[.string ⟨nm.toArray⟩, .slice ua MU.length uc, .slice va MA.length vc], .bool true]) (by simp [results, Tryz.results14, go_sem, *]) rfl ?_
    refine .inr ⟨(nm, MU, MA), HR.out, ua, uc, va, vc, rfl, ?_, ?_, below_set3 HF.out.2.1 (Nat.le_refl _) _ _ _⟩
    · exact txR_owns (ownsRow_chg HF.out.2.2.1 (snchg_set3 _ _ _ _ _) (fun j hj => by have := (HF.out.2.2.1.lt j hj).1; have h9 : W6.heap.size ≤ j := this; show ¬ j = w.heap.size; omega))
    · exact txR_owns (ownsRow_chg HF.out.2.2.2 (snchg_set3 _ _ _ _ _) (fun j hj => by have := (HF.out.2.2.2.lt j hj).1; show ¬ j = w.heap.size; omega))
end Go.Proofs.YtcfckgpjdaadeaaGreatDoor
namespace Go.Proofs.YtcfckgpjdaadeaaGreatDoor
set_option linter.unusedSimpArgs false
set_option linter.unusedVariables false
open Go Go.RowKit Go.Proofs.BerK Go.Proofs.MemK Go.Proofs.UtfK

/-- Attributes in memory, to be read. -/
def AtAt (w : World) (v : Value) (A : List Atr) : Prop :=
  ∃ a c, v = .slice a A.length c ∧ ∀ i (hi : i < A.length), ∃ g o vl, a = some ⟨g, o, none⟩ ∧ g < w.heap.size ∧ w.cell? ⟨g, o + i * 2, none⟩ = some (.string ⟨A[i].1.toArray⟩) ∧ w.cell? ⟨g, o + i * 2 + 1, none⟩ = some vl ∧ TxR w vl A[i].2
theorem atAt_below {w w' : World} {v : Value} {A : List Atr} (h : AtAt w v A) (hb : Below w.heap.size w w') : AtAt w' v A := by
  obtain ⟨a, c, rfl, h⟩ := h
  refine ⟨a, c, rfl, fun i hi => ?_⟩
  obtain ⟨g, o, vl, h1, h2, h3, h4, h5⟩ := h i hi
  exact ⟨g, o, vl, h1, Nat.lt_of_lt_of_le h2 hb.size, (hb.cell (p := ⟨g, _, none⟩) h2).trans h3, (hb.cell (p := ⟨g, _, none⟩) h2).trans h4, txR_below h5 hb⟩
def noTy : Ty := ([], 0, false)
theorem tycs_set : ∀ (R : List Ty) (i : Nat) (h : i < R.length) (t : Ty), (((tycs R).set (i * 3) (.string ⟨t.1.toArray⟩)).set (i * 3 + 1) (.int .i64 t.2.1)).set (i * 3 + 2) (.bool t.2.2) = tycs (R.set i t) := by
  intro R
  induction R with
  | nil => intro i h; simp at h
  | cons r R ih =>
    intro i h t
    have e : ∀ r : Ty, ∀ R, tycs (r :: R) = .string ⟨r.1.toArray⟩ :: .int .i64 r.2.1 :: .bool r.2.2 :: tycs R := fun _ _ => rfl
    cases i with
    | zero => rfl
    | succ i =>
      rw [e, List.set_cons_succ, e, show (i + 1) * 3 = i * 3 + 1 + 1 + 1 by omega]
      simp only [List.set_cons_succ]
      rw [← ih i (by simpa using h) t]
theorem made_three (n : Nat) : madeCells #[Value.string ByteArray.empty, Value.int .i64 0, Value.bool false] (n * 3) = (tycs (List.replicate n noTy)).toArray := by
  apply Array.ext'
  unfold madeCells
  rw [Array.toList_map, Array.toList_range]
  show _ = tycs (List.replicate n noTy)
  induction n with
  | zero => rfl
  | succ n ih =>
    have e : ∀ r : Ty, ∀ R, tycs (R ++ [r]) = tycs R ++ [.string ⟨r.1.toArray⟩, .int .i64 r.2.1, .bool r.2.2] := fun r R => by rw [tycs_append]; rfl
    rw [List.replicate_succ', e, ← ih, show (n + 1) * 3 = n * 3 + 1 + 1 + 1 by omega, List.range_succ, List.range_succ, List.range_succ]
    simp only [List.map_append, List.map_cons, List.map_nil, List.append_assoc, List.cons_append, List.nil_append]
    congr 1
    have h0 : (n * 3) % 3 = 0 := by omega
    have h1 : (n * 3 + 1) % 3 = 1 := by omega
    have h2 : (n * 3 + 1 + 1) % 3 = 2 := by omega
    show [(#[Value.string ByteArray.empty, Value.int .i64 0, Value.bool false] : Array Value)[(n * 3) % 3]!, (#[Value.string ByteArray.empty, Value.int .i64 0, Value.bool false] : Array Value)[(n * 3 + 1) % 3]!, (#[Value.string ByteArray.empty, Value.int .i64 0, Value.bool false] : Array Value)[(n * 3 + 1 + 1) % 3]!] = _
    rw [h0, h1, h2]
    rfl
theorem made_ty (n : Nat) (W : World) (hn : n ≤ 1000000) : (Instr.makeSlice 29 (.int .i64 (n : Int)) (.int .i64 (n : Int))).run Tryz.prog W = .ok (.slice (some ⟨W.heap.size, 0, none⟩) n n) (W.alloc (.cells (tycs (List.replicate n noTy)).toArray 35)) := by
  obtain ⟨i0, hi, hz0, hz1, hz2⟩ := info_parts Tryz.sninfo35
  have h := run_make (P := Tryz.prog) W 29 35 i0 (.agg #[.string ByteArray.empty, .int .i64 0, .bool false]) Tryz.underlying29 hi hz0 .i64 .i64 (n : Int) (n : Int) (by omega) (by omega) (by rw [hz2]; omega) (by omega)
  have e : madeCells (Value.agg #[.string ByteArray.empty, .int .i64 0, .bool false]).cells ((n : Int).toNat * i0.size) = (tycs (List.replicate n noTy)).toArray := by
    rw [hz1, show (n : Int).toNat * 3 = n * 3 by omega]; exact made_three n
  rw [e] at h
  simpa using h
theorem take_set' {α : Type} (R : List α) (j : Nat) (h : j < R.length) (q : α) : (R.set j q).take (j + 1) = R.take j ++ [q] := by
  rw [List.take_succ_eq_append_getElem (by simpa using h), List.take_set, List.set_eq_of_length_le (by rw [List.length_take]; omega)]
  simp
/-- The type of an attribute. -/
def tyG (T : List Ty) (a : Atr) : Ty := (scT T a.1).getD noTy
def tyAll (T : List Ty) (A : List Atr) : Bool := A.all fun a => (scT T a.1).isSome
def TysPost (T : List Ty) (A : List Atr) (w : World) (en : Ending) (w' : World) : Prop :=
  (tyAll T A = false → en = .returned (.tuple #[.slice none 0 0, .bool false])) ∧ (tyAll T A = true → ∃ a c, en = .returned (.tuple #[.slice a A.length c, .bool true]) ∧ TyAt w' (.slice a A.length c) (A.map (tyG T))) ∧ Below w.heap.size w w'
theorem tysPost_bad {T : List Ty} {A : List Atr} {w w' : World} (h : tyAll T A = false) (hb : Below w.heap.size w w') : TysPost T A w (.returned (.tuple #[.slice none 0 0, .bool false])) w' :=
  ⟨fun _ => rfl, (fun h2 => by rw [h] at h2; cases h2), hb⟩
theorem tysPost_ok {T : List Ty} {A : List Atr} {w w' : World} {a : Option Addr} {c n : Nat} (h : tyAll T A = true) (hn : A.length = n) (ht : TyAt w' (.slice a n c) (A.map (tyG T))) (hb : Below w.heap.size w w') : TysPost T A w (.returned (.tuple #[.slice a n c, .bool true])) w' := by
  subst hn
  exact ⟨(fun h2 => by rw [h] at h2; cases h2), fun _ => ⟨a, c, rfl, ht⟩, hb⟩
theorem tyAt_blk {w : World} {g : Nat} {R : List Ty} {e : TypeId} {c : Nat} (h : w.heap[g]? = some (.cells (tycs R).toArray e (0, 0))) : TyAt w (.slice (some ⟨g, 0, none⟩) R.length c) R := by
  refine ⟨_, _, rfl, fun i hi => ⟨g, 0, rfl, obj_lt h, ?_⟩⟩
  obtain ⟨h1, h2, h3⟩ := tycs_at R i hi
  rw [Nat.zero_add]
  exact ⟨obj_cell h _ _ (by simpa using h1), obj_cell h _ _ (by simpa using h2), obj_cell h _ _ (by simpa using h3)⟩
set_option maxHeartbeats 3200000 in
set_option maxRecDepth 100000 in
theorem typesOf_any (g : Nat) (T : List Ty) (C : List Cl) (A : List Atr) (v : Value) (w : World) (h : ScAt w g T C) (hlow : LowT T) (hlen : T.length ≤ 1024) (hA : AtAt w v A) (hl : A.length ≤ 1000000) (hs : ∀ a ∈ A, a.1.length ≤ 140737488355328) :
    Calls Tryz.prog 42 #[.pointer (some ⟨g, 0, none⟩), v] w (TysPost T A w) := by
  have HTy := Lib.hid (fun w' (hb : Below w.heap.size w w') s (hs : s.length ≤ 140737488355328) => stype_any g T C s w' (scAt_below h hb) hlow hs hlen)
  obtain ⟨a, c, rfl, hcells⟩ := hA
  have HM := Lib.hid hcells
  have HS := Lib.hid hs
  obtain ⟨n, hn⟩ : ∃ n, A.length = n := ⟨_, rfl⟩
  have HL := Lib.hid hn
  have HBad := Lib.hid (show ∀ k (hk : k < A.length), scT T A[k].1 = none → tyAll T A = false by
    intro k hk h
    unfold tyAll
    rw [List.all_eq_false]
    exact ⟨A[k], List.getElem_mem hk, by rw [h]; simp⟩)
  have HGood := Lib.hid (show (∀ k (hk : k < A.length), (scT T A[k].1).isSome = true) → tyAll T A = true by
    intro h
    unfold tyAll
    rw [List.all_eq_true]
    intro x hx
    obtain ⟨j, hj, rfl⟩ := List.getElem_of_mem hx
    exact h j hj)
  obtain ⟨L, hL⟩ : ∃ L, A.map (tyG T) = L := ⟨_, rfl⟩
  have HLm := Lib.hid hL
  have hLl : L.length = n := by rw [← hL]; simpa using hn
  rw [hn] at hl ⊢
  have hmk := fun W => made_ty n W hl
  obtain ⟨W1, hW1⟩ : ∃ W1, w.alloc (.cells (tycs (List.replicate n noTy)).toArray 35) = W1 := ⟨_, rfl⟩
  have hb0 : Below w.heap.size w W1 := by rw [← hW1]; exact (Below.refl _ w).alloc (Nat.le_refl _) _
  have x0 : W1.heap[w.heap.size]? = some (.cells (tycs (List.replicate n noTy)).toArray 35 (0, 0)) := by rw [← hW1]; exact heap_alloc_new w _
  have HX := Lib.hid (And.intro hb0 x0)
  have HLl := Lib.hid hLl
  obtain ⟨M, hM⟩ : ∃ M, (tycs (List.replicate n noTy)).toArray = M := ⟨_, rfl⟩
  rw [hM] at hW1
  have hmk2 : ∀ W, (Instr.makeSlice 29 (.int .i64 (n : Int)) (.int .i64 (n : Int))).run Tryz.prog W = .ok (.slice (some ⟨W.heap.size, 0, none⟩) n n) (W.alloc (.cells M 35)) := by rw [← hM]; exact hmk
  have HW1 := Lib.hid hW1
  clear hcells hs hn h hL hLl hb0 x0 hM hmk hW1
  go_enter Tryz.func42, Tryz.ntmps42
  go_wp2
  rw [HW1.out]
  clear hmk2
  go_loopw [16] (fun v wr => ∃ (k : Nat) (R : List Ty), k ≤ n ∧ v = .int .i64 (k : Nat) ∧ R.length = n ∧ R.take k = L.take k ∧ wr.heap[w.heap.size]? = some (.cells (tycs R).toArray 35 (0, 0)) ∧ Below w.heap.size w wr ∧ ∀ j (hj : j < A.length), j < k → (scT T A[j].1).isSome = true) (fun v _ => n - (intOf v).toNat)
  case atStart => exact ⟨0, List.replicate n noTy, by omega, rfl, by simp, by simp, HX.out.2, HX.out.1, fun j _ h => by omega⟩
  case round =>
    obtain ⟨k, R, hk, rfl, hRl, hRk, hblk, hb, hall⟩ := hrel
    have hsr := hb.size
    by_cases hlt : k < n
    · have hkl : (k : Int) < (n : Int) := by omega
      have hkm : k < A.length := by rw [HL.out]; exact hlt
      obtain ⟨g1, o1, vl, rfl, hg1, e0w, e1w, hvl⟩ := HM.out k hkm
      obtain ⟨va, vc, rfl, _⟩ := hvl
      have e0 := (hb.cell (p := ⟨g1, _, none⟩) hg1).trans e0w
      have e1 := (hb.cell (p := ⟨g1, _, none⟩) hg1).trans e1w
      have hbd := HS.out _ (List.getElem_mem hkm)
      have hzr : w.heap.size < wr.heap.size := obj_lt hblk
      obtain ⟨nl, hnl⟩ : ∃ x, A[k].2.length = x := ⟨_, rfl⟩
      rw [hnl] at e1
      have HBk := Lib.hid (HBad.out k hkm)
      have hLk : ∀ t, scT T A[k].1 = some t → L[k]? = some t := by
        intro t ht
        rw [← HLm.out]
        simp [hkm, tyG, ht]
      have hallk : ∀ t, scT T A[k].1 = some t → ∀ j (hj : j < A.length), j < k + 1 → (scT T A[j].1).isSome = true := by
        intro t ht j hj hjk
        by_cases e : j = k
        · subst e; rw [ht]; rfl
        · exact hall j hj (by omega)
      obtain ⟨nm, hnm⟩ : ∃ x, A[k].1 = x := ⟨_, rfl⟩
      rw [hnm] at e0 hbd HBk hLk hallk
      obtain ⟨W2, hW2⟩ : ∃ W2, wr.alloc (.cells #[.string ⟨nm.toArray⟩, .slice va nl vc] 63) = W2 := ⟨_, rfl⟩
      have hb2 : Below wr.heap.size wr W2 := by rw [← hW2]; exact (Below.refl _ wr).alloc (Nat.le_refl _) _
      have hTy := HTy.out W2 (hb.trans (hb2.mono hsr)) nm hbd
      have HI := Lib.hid (And.intro hRk (And.intro hblk (And.intro hb (And.intro hallk (And.intro hLk hRl)))))
      have HW2 := Lib.hid hW2
      have HB2 := Lib.hid hb2
      have y2 : W2.heap[wr.heap.size]? = some (.cells #[.string ⟨nm.toArray⟩, .slice va nl vc] 63 (0, 0)) := by rw [← hW2]; exact heap_alloc_new wr _
      obtain ⟨i0, i1⟩ := obj2s y2
      cases ht : scT T nm with
      | none =>
        rw [ht] at hTy
        have hTy2 := Lib.hid (show Calls Tryz.prog 12 #[.pointer (some ⟨g, 0, none⟩), .string ⟨nm.toArray⟩] W2 (fun en w' => en = .returned (.tuple #[.agg #[.string ⟨#[]⟩, .int .i64 0, .bool false], .bool false]) ∧ Below W2.heap.size W2 w') from hTy)
        have HQ := Lib.hid (HBk.out ht)
        clear hRk hblk hb hallk hLk hRl hW2 hb2 y2 ht hTy e0w e1w hnl hnm hbd hall
        go_wp2_with fail
        rw [HW2.out]
        refine hTy2.out.mono ?_
        rintro en w5 ⟨rfl, hb5⟩
        have HB5 := Lib.hid (HI.out.2.2.1.trans ((HB2.out.trans (hb5.mono HB2.out.size)).mono hsr))
        clear hb5 i0 i1 e0 e1
        go_wp2
        go_ret2
        exact tysPost_bad HQ.out (HB5.out.alloc HB5.out.size _)
      | some tt =>
        obtain ⟨tn, tr, ts⟩ := tt
        rw [ht] at hTy
        have hTy2 := Lib.hid (show Calls Tryz.prog 12 #[.pointer (some ⟨g, 0, none⟩), .string ⟨nm.toArray⟩] W2 (fun en w' => en = .returned (.tuple #[.agg #[.string ⟨tn.toArray⟩, .int .i64 tr, .bool ts], .bool true]) ∧ Below W2.heap.size W2 w') from hTy)
        have HQ := Lib.hid (And.intro (hLk _ ht) (hallk _ ht))
        clear hRk hblk hb hallk hLk hRl hW2 hb2 y2 ht hTy e0w e1w hnl hnm hbd hall
        go_wp2_with fail
        rw [HW2.out]
        refine hTy2.out.mono ?_
        rintro en w5 ⟨rfl, hb5⟩
        have hbr5 := HB2.out.trans (hb5.mono HB2.out.size)
        have hz5 : w.heap.size < w5.heap.size := Nat.lt_of_lt_of_le hzr hbr5.size
        have hkR : k < R.length := by rw [HI.out.2.2.2.2.2]; exact hlt
        have blk5 := obj_below HI.out.2.1 hbr5 hzr
        obtain ⟨t0, t1, t2⟩ := tycs_at R k hkR
        have c0 := obj_cell blk5 (k * 3) _ (by simpa using t0)
        have c1 := obj_cell blk5 (k * 3 + 1) _ (by simpa using t1)
        have c2 := obj_cell blk5 (k * 3 + 2) _ (by simpa using t2)
        have f0 := obj_free blk5 (k * 3)
        have f1 := obj_free blk5 (k * 3 + 1)
        have f2 := obj_free blk5 (k * 3 + 2)
        have HB5 := Lib.hid (And.intro (HI.out.2.2.1.trans (hbr5.mono hsr)) blk5)
        clear hb5 i0 i1 e0 e1 blk5 hbr5 t0 t1 t2
        go_wp2
        have hst := tycs_set R k hkR (tn, tr, ts)
        have e3 : ((((tycs R).toArray.setIfInBounds (k * 3) (.string ⟨tn.toArray⟩)).setIfInBounds (k * 3 + 1) (.int .i64 tr)).setIfInBounds (k * 3 + 2) (.bool ts)) = (tycs (R.set k (tn, tr, ts))).toArray := by
          rw [List.setIfInBounds_toArray, List.setIfInBounds_toArray, List.setIfInBounds_toArray, hst]
        refine ⟨⟨k + 1, R.set k (tn, tr, ts), by omega, by go_num, by rw [List.length_set]; exact HI.out.2.2.2.2.2, ?_, ?_, ?_, HQ.out.2⟩, by simp [intOf]; omega⟩
        · rw [take_set' R k hkR, HI.out.1, List.take_add_one, HQ.out.1]; rfl
        · refine obj_alloc ?_ _
          rw [← e3]
          exact obj_set (obj_set (obj_set HB5.out.2 _ _) _ _) _ _
        · exact Below.alloc (((HB5.out.1.setCell (p := ⟨w.heap.size, _, none⟩) (Nat.le_refl _) _).setCell (p := ⟨w.heap.size, _, none⟩) (Nat.le_refl _) _).setCell (p := ⟨w.heap.size, _, none⟩) (Nat.le_refl _) _) (by simp; omega) _
    · obtain rfl : k = n := by omega
      have hRL : R = L := by
        have h1 : R.take k = R := List.take_of_length_le (by omega)
        have h2 : L.take k = L := List.take_of_length_le (by rw [HLl.out]; exact Nat.le_refl _)
        rw [← h1, hRk, h2]
      have hty : TyAt wr (.slice (some ⟨w.heap.size, 0, none⟩) k k) (A.map (tyG T)) := by
        have := tyAt_blk (c := k) hblk
        rw [hRl, hRL] at this
        rw [HLm.out]
        exact this
      have H := Lib.hid (And.intro hty (And.intro hb (HGood.out (fun j hj => hall j hj (by rw [← HL.out]; exact hj)))))
      clear hRl hRk hblk hb hall hRL hty
      go_wp2
      go_ret2
      exact tysPost_ok H.out.2.2 HL.out H.out.1 H.out.2.1
end Go.Proofs.YtcfckgpjdaadeaaGreatDoor
