/- The law on a schema that is none, for every entry and name. -/
import Derived.Test.YtcfckgpjdaadeaaGreatDoorSnUW
namespace Go.Proofs.YtcfckgpjdaadeaaGreatDoor
set_option linter.unusedSimpArgs false
set_option linter.unusedVariables false
open Go Go.RowKit Go.Proofs.BerK Go.Proofs.MemK Go.Proofs.UtfK

set_option maxHeartbeats 6400000 in
set_option maxRecDepth 100000 in
theorem scnone_any (dn : ByteArray) (a : Option Addr) (n c : Nat) (s : ByteArray) (w : World) (he : ErrOk w) : Calls Tryz.prog 5 #[.agg #[.string dn, .slice a n c], .string s] w (BB true w) := by
  have hst : ∀ w : World, (binOp .eql 35 (.agg #[.string ⟨#[]⟩, .int .i64 0, .bool false]) (.agg #[.string ⟨#[]⟩, .int .i64 0, .bool false])).run Tryz.prog w = .ok (.bool true) w := fun w => by kernel_rfl
  have HST := Lib.hid hst
  have HAw := Lib.hid (fun w' (hb : Below w.heap.size w w') => scawake_any w' (errOk_below he hb))
  obtain ⟨W1, hW1⟩ : ∃ W1, w.alloc (.cells #[.string dn, .slice a n c] 24) = W1 := ⟨_, rfl⟩
  have y1 : W1.heap[w.heap.size]? = some (.cells #[.string dn, .slice a n c] 24 (0, 0)) := by rw [← hW1]; exact heap_alloc_new w _
  have hb1 : Below w.heap.size w W1 := by rw [← hW1]; exact (Below.refl _ w).alloc (Nat.le_refl _) _
  have H1 := Lib.hid (And.intro y1 hb1)
  have HW1 := Lib.hid hW1
  have HTy := Lib.hid (show Calls Tryz.prog 12 #[.pointer none, .string s] W1 (fun en w' => en = .returned (.tuple #[.agg #[.string ⟨#[]⟩, .int .i64 0, .bool false], .bool false]) ∧ Below W1.heap.size W1 w') from stype_nil s W1)
  clear hst he y1 hb1 hW1
  go_enter Tryz.func5, Tryz.ntmps5
  go_wp2_with fail
  rw [HW1.out]
  refine HTy.out.mono ?_
  rintro en w2 ⟨rfl, hb⟩
  obtain ⟨W2, hW2⟩ : ∃ W2, w2.alloc (.cells #[.string ⟨#[]⟩, .int .i64 0, .bool false] 35) = W2 := ⟨_, rfl⟩
  have y2 : W2.heap[w2.heap.size]? = some (.cells #[.string ⟨#[]⟩, .int .i64 0, .bool false] 35 (0, 0)) := by rw [← hW2]; exact heap_alloc_new w2 _
  have hb2 : Below W1.heap.size W1 W2 := by rw [← hW2]; exact hb.alloc hb.size _
  have H2 := Lib.hid (And.intro (obj_below H1.out.1 hb2 (obj_lt H1.out.1)) (And.intro (H1.out.2.trans (hb2.mono H1.out.2.size)) y2))
  have HW2 := Lib.hid hW2
  have HCl := Lib.hid ((sclass_nil s W2).mono (R' := fun en w' => en = .returned (.tuple #[.agg #[.string ⟨#[]⟩, .slice none 0 0, .slice none 0 0], .bool false]) ∧ Below W2.heap.size W2 w') (fun en w' h => by
    rcases h with ⟨_, h1, h2⟩ | ⟨c, hc, _⟩
    · exact ⟨h1, h2⟩
    · cases hc))
  clear hb hW2 y2 hb2
  go_wp2_with fail
  rw [HW2.out]
  refine HCl.out.mono ?_
  rintro en w3 ⟨rfl, hb⟩
  obtain ⟨W3, hW3⟩ : ∃ W3, w3.alloc (.cells #[.string ⟨#[]⟩, .slice none 0 0, .slice none 0 0] 40) = W3 := ⟨_, rfl⟩
  have y3 : W3.heap[w3.heap.size]? = some (.cells #[.string ⟨#[]⟩, .slice none 0 0, .slice none 0 0] 40 (0, 0)) := by rw [← hW3]; exact heap_alloc_new w3 _
  have hb3 : Below W2.heap.size W2 W3 := by rw [← hW3]; exact hb.alloc hb.size _
  have H3 := Lib.hid (And.intro (obj_below H2.out.1 hb3 (obj_lt H2.out.1)) (And.intro (H2.out.2.1.trans (hb3.mono H2.out.2.1.size)) (And.intro (obj_below H2.out.2.2 hb3 (obj_lt H2.out.2.2)) y3)))
  have HW3 := Lib.hid hW3
  obtain ⟨e0, e1⟩ := obj2s H3.out.1
  obtain ⟨t0, t1, t2⟩ := obj3 H3.out.2.2.1
  obtain ⟨u0, u1, u2⟩ := obj3 H3.out.2.2.2
  have hst := HST.out
  clear hb y3 hb3 HW3
  subst hW3
  go_wp2_with fail
  refine (scheck_nil dn a n c _).mono ?_
  rintro en w4 ⟨rfl, hb⟩
  have HB4 := Lib.hid (H3.out.2.1.trans (hb.mono H3.out.2.1.size))
  clear hb e0 e1 t0 t1 t2 u0 u1 u2
  go_wp2_with fail
  refine (stypes_nil w4).mono ?_
  rintro en w5 ⟨ta, tc, rfl, _, hb⟩
  have HB5 := Lib.hid (HB4.out.trans (hb.mono HB4.out.size))
  clear hb
  go_wp2_with fail
  refine (HAw.out w5 HB5.out).mono ?_
  rintro en w6 ⟨rfl, hb⟩
  have HB6 := Lib.hid (HB5.out.trans (hb.mono HB5.out.size))
  clear hb
  go_wp2
  go_ret
  exact bB_mk rfl HB6.out
end Go.Proofs.YtcfckgpjdaadeaaGreatDoor
