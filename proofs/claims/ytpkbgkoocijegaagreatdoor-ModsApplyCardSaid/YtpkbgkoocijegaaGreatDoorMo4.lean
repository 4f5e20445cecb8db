/- The law's own mod; Apply of no schema; what lies in slots of the example's regions. The example of layer 21: its regions. The example of layer 21. -/
import Derived.Test.YtpkbgkoocijegaaGreatDoorMo3
import Derived.Test.YtpkbgkoocijegaaGreatDoorMoReg
import Derived.Test.YtpkbgkoocijegaaGreatDoorSnUW
set_option linter.unusedVariables false
set_option linter.unusedSimpArgs false
set_option maxHeartbeats 25600000
set_option maxRecDepth 100000
namespace Go.Proofs.YtpkbgkoocijegaaGreatDoor
open Go Go.RowKit Go.Proofs.BerK Go.Proofs.MemK Go.Proofs.UtfK Go.Proofs.RegK
theorem momod_any (op : Int) (s : List UInt8) (a : Option Addr) (n c : Nat) (w : World) :
  Calls Tryz.prog 31 #[.int .i64 op, .string ⟨s.toArray⟩, .slice a n c] w (fun en w' => en = .returned (.agg #[.int .i64 op, .string ⟨s.toArray⟩, .slice a n c]) /\ Below w.heap.size w w') := by
 obtain ⟨W1, hW1⟩ : ∃ W, w.alloc (.cells #[.int .i64 0, .string ⟨#[]⟩, .slice none 0 0] 47) = W := ⟨_, rfl⟩
 have hb1 : Below w.heap.size w W1 := by rw [<- hW1]; exact (Below.refl _ w).alloc (Nat.le_refl _) _
 have x1 : W1.heap[w.heap.size]? = some (.cells #[.int .i64 0, .string ⟨#[]⟩, .slice none 0 0] 47 (0, 0)) := by rw [<- hW1]; exact heap_alloc_new w _
 clear hb1 x1 hW1 W1
 go_enter Tryz.func31, Tryz.ntmps31
 go_wp2
 refine bodyPost_ret (v := .agg #[.int .i64 op, .string ⟨s.toArray⟩, .slice a n c]) (by simp [results, Tryz.results31, go_sem]) rfl ?_
 exact ⟨rfl, (Below.refl _ w).alloc (Nat.le_refl _) _⟩
theorem monil_any (dn : List UInt8) (a : Option Addr) (n c : Nat) (w : World) :
  Calls Tryz.prog 12 #[.pointer none, .agg #[.string ⟨dn.toArray⟩, .slice a n c], .slice none 0 0] w (fun en w' => en = .returned (.tuple #[.agg #[.string ⟨#[]⟩, .slice none 0 0], .int .i64 80]) /\ Below w.heap.size w w') := by
 obtain ⟨W1, hW1⟩ : ∃ W1, (w.alloc (.cells #[.string ⟨dn.toArray⟩, .slice a n c] 24)).alloc (.cells #[.string ⟨#[]⟩, .slice none 0 0] 24) = W1 := ⟨_, rfl⟩
 obtain ⟨x0, x1, hb1, hz1⟩ := boxes10 hW1
 obtain ⟨q0, q1⟩ := obj2s x1
 have u0 := obj_free x1 0
 have u1 := obj_free x1 1
 have HX := Hy (An x1 hb1)
 have HW1 := Hy hW1
 clear x0 x1 hb1 hz1 hW1
 go_enter Tryz.func12, Tryz.ntmps12
 go_wp2
 try rw [HW1.out]
 obtain ⟨j0, j1⟩ := obj2s (set2_e HX.out.1 (.string ⟨#[]⟩) (.slice none 0 0))
 refine bodyPost_ret (v := .tuple #[.agg #[.string ⟨#[]⟩, .slice none 0 0], .int .i64 80]) (by simp [results, Tryz.results12, go_sem, *]) rfl ?_
 first | exact ⟨rfl, HX.out.2⟩ | exact ⟨rfl, below_e2 HX.out.2 (by omega) _ _⟩
def gSl (s : List UInt8) (v : Value) (w : World) : Prop := ∃ b, v = .slice (some ⟨b, 0, none⟩) 1 1 /\ TxR w v [s]
def gMd (op : Int) (ty : List UInt8) (vs : List (List UInt8)) (v : Value) (w : World) : Prop := ∃ a c, v = .agg #[.int .i64 op, .string ⟨ty.toArray⟩, .slice a vs.length c] /\ TxR w (.slice a vs.length c) vs /\ SlOk (.slice a vs.length c)
def gMs (L : List Md) (v : Value) (w : World) : Prop := ∃ a c, v = .slice a L.length c /\ MdsAt w v L
def gRs (dn : List UInt8) (p : List Atr × Int) (v : Value) (w : World) : Prop := ∃ d a n c, v = .tuple #[.agg #[.string ⟨d⟩, .slice a n c], .int .i64 p.2] /\ (p.2 = 0 -> d = dn.toArray /\ PaAt w (.slice a n c) p.1)
def gEn (dn : List UInt8) (p : List Atr × Int) (v : Value) (w : World) : Prop := ∃ d a n c, v = .agg #[.string ⟨d⟩, .slice a n c] /\ (p.2 = 0 -> d = dn.toArray /\ PaAt w (.slice a n c) p.1)
def gBx (B : Nat) (v : Value) (w : World) : Prop := ∃ b, v = .pointer (some ⟨b, 0, none⟩) /\ w.heap[b]? = some (.cells #[.string ⟨#[]⟩, .slice none 0 0] 24 (0, 0)) /\ B <= b
theorem gSl_mono {s : List UInt8} {v : Value} {w w' : World} (h : gSl s v w) (hb : Below w.heap.size w w') : gSl s v w' := by
 obtain ⟨b, h1, h2⟩ := h; exact ⟨b, h1, txR_below h2 hb⟩
theorem gMd_mono {op : Int} {ty : List UInt8} {vs : List (List UInt8)} {v : Value} {w w' : World} (h : gMd op ty vs v w) (hb : Below w.heap.size w w') : gMd op ty vs v w' := by
 obtain ⟨a, c, h1, h2, h3⟩ := h; exact ⟨a, c, h1, txR_below h2 hb, h3⟩
theorem gMs_mono {L : List Md} {v : Value} {w w' : World} (h : gMs L v w) (hb : Below w.heap.size w w') : gMs L v w' := by
 obtain ⟨a, c, h1, h2⟩ := h; exact ⟨a, c, h1, mdsAt_below h2 hb⟩
theorem gRs_mono {dn : List UInt8} {p : List Atr × Int} {v : Value} {w w' : World} (h : gRs dn p v w) (hb : Below w.heap.size w w') : gRs dn p v w' := by
 obtain ⟨d, a, n, c, h1, h2⟩ := h; exact ⟨d, a, n, c, h1, fun h0 => ⟨(h2 h0).1, paAt_below (h2 h0).2 hb⟩⟩
theorem gEn_mono {dn : List UInt8} {p : List Atr × Int} {v : Value} {w w' : World} (h : gEn dn p v w) (hb : Below w.heap.size w w') : gEn dn p v w' := by
 obtain ⟨d, a, n, c, h1, h2⟩ := h; exact ⟨d, a, n, c, h1, fun h0 => ⟨(h2 h0).1, paAt_below (h2 h0).2 hb⟩⟩
theorem gBx_mono {B : Nat} {v : Value} {w w' : World} (h : gBx B v w) (hb : Below w.heap.size w w') : gBx B v w' := by
 obtain ⟨b, h1, h2, h3⟩ := h; exact ⟨b, h1, obj_below h2 hb (obj_lt h2), h3⟩
theorem mdsAt_one {w : World} {m : Md} {a : Option Addr} {c : Nat} (ht : TxR w (.slice a m.2.2.length c) m.2.2) (hk : SlOk (.slice a m.2.2.length c)) {t : TypeId} :
  MdsAt (w.alloc (.cells #[.int .i64 m.1, .string ⟨m.2.1.toArray⟩, .slice a m.2.2.length c] t)) (.slice (some ⟨w.heap.size, 0, none⟩) 1 1) [m] := by
 have hb : Below w.heap.size w (w.alloc (.cells #[.int .i64 m.1, .string ⟨m.2.1.toArray⟩, .slice a m.2.2.length c] t)) := (Below.refl _ w).alloc (Nat.le_refl _) _
 have hx := heap_alloc_new w (.cells #[.int .i64 m.1, .string ⟨m.2.1.toArray⟩, .slice a m.2.2.length c] t)
 obtain ⟨c0, c1, c2⟩ := obj3 hx
 refine ⟨some ⟨w.heap.size, 0, none⟩, 1, rfl, fun i hi => ?_⟩
 have : i = 0 := by simp at hi; exact hi
 subst this
 exact ⟨w.heap.size, 0, _, rfl, obj_lt hx, c0, c1, c2, txR_below ht hb, hk⟩
theorem mdsAt_three {w : World} {m1 m2 m3 : Md} {a1 a2 a3 : Option Addr} {c1 c2 c3 : Nat} (h1 : TxR w (.slice a1 m1.2.2.length c1) m1.2.2) (k1 : SlOk (.slice a1 m1.2.2.length c1)) (h2 : TxR w (.slice a2 m2.2.2.length c2) m2.2.2) (k2 : SlOk (.slice a2 m2.2.2.length c2)) (h3 : TxR w (.slice a3 m3.2.2.length c3) m3.2.2) (k3 : SlOk (.slice a3 m3.2.2.length c3)) {t : TypeId} :
  MdsAt (w.alloc (.cells #[.int .i64 m1.1, .string ⟨m1.2.1.toArray⟩, .slice a1 m1.2.2.length c1, .int .i64 m2.1, .string ⟨m2.2.1.toArray⟩, .slice a2 m2.2.2.length c2, .int .i64 m3.1, .string ⟨m3.2.1.toArray⟩, .slice a3 m3.2.2.length c3] t)) (.slice (some ⟨w.heap.size, 0, none⟩) 3 3) [m1, m2, m3] := by
 have hb : Below w.heap.size w (w.alloc (.cells #[.int .i64 m1.1, .string ⟨m1.2.1.toArray⟩, .slice a1 m1.2.2.length c1, .int .i64 m2.1, .string ⟨m2.2.1.toArray⟩, .slice a2 m2.2.2.length c2, .int .i64 m3.1, .string ⟨m3.2.1.toArray⟩, .slice a3 m3.2.2.length c3] t)) := (Below.refl _ w).alloc (Nat.le_refl _) _
 have hx := heap_alloc_new w (.cells #[.int .i64 m1.1, .string ⟨m1.2.1.toArray⟩, .slice a1 m1.2.2.length c1, .int .i64 m2.1, .string ⟨m2.2.1.toArray⟩, .slice a2 m2.2.2.length c2, .int .i64 m3.1, .string ⟨m3.2.1.toArray⟩, .slice a3 m3.2.2.length c3] t)
 refine ⟨some ⟨w.heap.size, 0, none⟩, 3, rfl, fun i hi => ?_⟩
 have hi3 : i < 3 := by simpa using hi
 rcases (show i = 0 \/ i = 1 \/ i = 2 by omega) with rfl | rfl | rfl
 ·exact ⟨w.heap.size, 0, _, rfl, obj_lt hx, obj_cell hx 0 _ rfl, obj_cell hx 1 _ rfl, obj_cell hx 2 _ rfl, txR_below h1 hb, k1⟩
 ·exact ⟨w.heap.size, 0, _, rfl, obj_lt hx, obj_cell hx 3 _ rfl, obj_cell hx 4 _ rfl, obj_cell hx 5 _ rfl, txR_below h2 hb, k2⟩
 ·exact ⟨w.heap.size, 0, _, rfl, obj_lt hx, obj_cell hx 6 _ rfl, obj_cell hx 7 _ rfl, obj_cell hx 8 _ rfl, txR_below h3 hb, k3⟩
def awG2 (g pg B : Nat) : Nat -> Value -> World -> Prop
 | 0 => fun v _ => v = .pointer (some ⟨g, 0, none⟩)
 | 1 => fun v _ => v = .agg #[.string ⟨#[99, 110, 61, 97]⟩, .slice (some ⟨pg, 0, none⟩) 3 3]
 | 2 => gSl [120]
 | 3 => gMd 0 [109, 97, 105, 108] [[120]]
 | 4 => gSl [66]
 | 5 => gMd 1 [83, 78] [[66]]
 | 6 => gSl [122]
 | 7 => gMd 2 [99, 110] [[122]]
 | 8 => gMs awM
 | 9 => gRs [99, 110, 61, 97] (awL, 0)
 | 10 => gRs [99, 110, 61, 97] (awL, 0)
 | 11 => gEn [99, 110, 61, 97] (awL, 0)
 | 12 => fun v _ => v = .int .i64 (awL, 0).2
 | 13 => gBx B
 | _ => fun _ _ => True
theorem awG2_mono (g pg B : Nat) : ∀ (j : Nat) (v : Value) (w w' : World), awG2 g pg B j v w -> Below w.heap.size w w' -> awG2 g pg B j v w'
 | 0, v, w, w', h, hb => h
 | 1, v, w, w', h, hb => h
 | 2, v, w, w', h, hb => gSl_mono h hb
 | 3, v, w, w', h, hb => gMd_mono h hb
 | 4, v, w, w', h, hb => gSl_mono h hb
 | 5, v, w, w', h, hb => gMd_mono h hb
 | 6, v, w, w', h, hb => gSl_mono h hb
 | 7, v, w, w', h, hb => gMd_mono h hb
 | 8, v, w, w', h, hb => gMs_mono h hb
 | 9, v, w, w', h, hb => gRs_mono h hb
 | 10, v, w, w', h, hb => gRs_mono h hb
 | 11, v, w, w', h, hb => gEn_mono h hb
 | 12, v, w, w', h, hb => h
 | 13, v, w, w', h, hb => gBx_mono h hb
 | _ + 14, _, _, _, _, _ => trivial
def awG3 (g pg B : Nat) : Nat -> Value -> World -> Prop
 | 0 => fun v _ => v = .pointer (some ⟨g, 0, none⟩)
 | 1 => fun v _ => v = .agg #[.string ⟨#[99, 110, 61, 97]⟩, .slice (some ⟨pg, 0, none⟩) 3 3]
 | 2 => gMd 1 [109, 97, 105, 108] []
 | 3 => gMs [(1, ([109, 97, 105, 108], []))]
 | 4 => gRs [99, 110, 61, 97] (mdApp perA [(1, ([109, 97, 105, 108], []))])
 | 5 => gRs [99, 110, 61, 97] (mdApp perA [(1, ([109, 97, 105, 108], []))])
 | 6 => gEn [99, 110, 61, 97] (mdApp perA [(1, ([109, 97, 105, 108], []))])
 | 7 => fun v _ => v = .int .i64 (mdApp perA [(1, ([109, 97, 105, 108], []))]).2
 | 8 => gBx B
 | _ => fun _ _ => True
theorem awG3_mono (g pg B : Nat) : ∀ (j : Nat) (v : Value) (w w' : World), awG3 g pg B j v w -> Below w.heap.size w w' -> awG3 g pg B j v w'
 | 0, v, w, w', h, hb => h
 | 1, v, w, w', h, hb => h
 | 2, v, w, w', h, hb => gMd_mono h hb
 | 3, v, w, w', h, hb => gMs_mono h hb
 | 4, v, w, w', h, hb => gRs_mono h hb
 | 5, v, w, w', h, hb => gRs_mono h hb
 | 6, v, w, w', h, hb => gEn_mono h hb
 | 7, v, w, w', h, hb => h
 | 8, v, w, w', h, hb => gBx_mono h hb
 | _ + 9, _, _, _, _, _ => trivial
def awG4 (g pg B : Nat) : Nat -> Value -> World -> Prop
 | 0 => fun v _ => v = .pointer (some ⟨g, 0, none⟩)
 | 1 => fun v _ => v = .agg #[.string ⟨#[99, 110, 61, 97]⟩, .slice (some ⟨pg, 0, none⟩) 3 3]
 | 2 => gSl [65]
 | 3 => gMd 0 [99, 110] [[65]]
 | 4 => gMs [(0, ([99, 110], [[65]]))]
 | 5 => gRs [99, 110, 61, 97] (mdApp perA [(0, ([99, 110], [[65]]))])
 | 6 => gRs [99, 110, 61, 97] (mdApp perA [(0, ([99, 110], [[65]]))])
 | 7 => gEn [99, 110, 61, 97] (mdApp perA [(0, ([99, 110], [[65]]))])
 | 8 => fun v _ => v = .int .i64 (mdApp perA [(0, ([99, 110], [[65]]))]).2
 | 9 => gBx B
 | _ => fun _ _ => True
theorem awG4_mono (g pg B : Nat) : ∀ (j : Nat) (v : Value) (w w' : World), awG4 g pg B j v w -> Below w.heap.size w w' -> awG4 g pg B j v w'
 | 0, v, w, w', h, hb => h
 | 1, v, w, w', h, hb => h
 | 2, v, w, w', h, hb => gSl_mono h hb
 | 3, v, w, w', h, hb => gMd_mono h hb
 | 4, v, w, w', h, hb => gMs_mono h hb
 | 5, v, w, w', h, hb => gRs_mono h hb
 | 6, v, w, w', h, hb => gRs_mono h hb
 | 7, v, w, w', h, hb => gEn_mono h hb
 | 8, v, w, w', h, hb => h
 | 9, v, w, w', h, hb => gBx_mono h hb
 | _ + 10, _, _, _, _, _ => trivial
def awG5 (g pg B : Nat) : Nat -> Value -> World -> Prop
 | 0 => fun v _ => v = .pointer (some ⟨g, 0, none⟩)
 | 1 => fun v _ => v = .agg #[.string ⟨#[99, 110, 61, 97]⟩, .slice (some ⟨pg, 0, none⟩) 3 3]
 | 2 => gSl [65]
 | 3 => gMd 0 [122, 122] [[65]]
 | 4 => gMs [(0, ([122, 122], [[65]]))]
 | 5 => gRs [99, 110, 61, 97] (mdApp perA [(0, ([122, 122], [[65]]))])
 | 6 => gRs [99, 110, 61, 97] (mdApp perA [(0, ([122, 122], [[65]]))])
 | 7 => gEn [99, 110, 61, 97] (mdApp perA [(0, ([122, 122], [[65]]))])
 | 8 => fun v _ => v = .int .i64 (mdApp perA [(0, ([122, 122], [[65]]))]).2
 | 9 => gBx B
 | _ => fun _ _ => True
theorem awG5_mono (g pg B : Nat) : ∀ (j : Nat) (v : Value) (w w' : World), awG5 g pg B j v w -> Below w.heap.size w w' -> awG5 g pg B j v w'
 | 0, v, w, w', h, hb => h
 | 1, v, w, w', h, hb => h
 | 2, v, w, w', h, hb => gSl_mono h hb
 | 3, v, w, w', h, hb => gMd_mono h hb
 | 4, v, w, w', h, hb => gMs_mono h hb
 | 5, v, w, w', h, hb => gRs_mono h hb
 | 6, v, w, w', h, hb => gRs_mono h hb
 | 7, v, w, w', h, hb => gEn_mono h hb
 | 8, v, w, w', h, hb => h
 | 9, v, w, w', h, hb => gBx_mono h hb
 | _ + 10, _, _, _, _, _ => trivial
theorem moawake_any (w : World) (he : ErrOk w) : Calls Tryz.prog 9 #[] w (BB true w) := by
 have HPl := Hy (fun w => plain_any w)
 have HPe := Hy (fun w => person_any w)
 have HE := Hy he
 clear he
 go_enter Tryz.func9, Tryz.ntmps9
 go_wp2_with fail
 with_reducible refine (HPl.out _).mono ?_
 rintro en w1 ⟨g, rfl, hsc, hb1⟩
 have H1 := Hy (An hsc hb1)
 clear hsc hb1
 go_wp2_with fail
 with_reducible refine (HPe.out _).mono ?_
 rintro en w2 ⟨pg, pb, rfl, hpr, hpz, hrows, hat, hb2⟩
 have hEa := eaAt_per hpr hrows
 obtain ⟨W3, hW3⟩ : ∃ W, w2.alloc (.cells #[.string ⟨#[99, 110, 61, 97]⟩, .slice (some ⟨pg, 0, none⟩) 3 3] 24) = W := ⟨_, rfl⟩
 have hb3 : Below w2.heap.size w2 W3 := by rw [<- hW3]; exact (Below.refl _ w2).alloc (Nat.le_refl _) _
 have x3 : W3.heap[w2.heap.size]? = some (.cells #[.string ⟨#[99, 110, 61, 97]⟩, .slice (some ⟨pg, 0, none⟩) 3 3] 24 (0, 0)) := by rw [<- hW3]; exact heap_alloc_new w2 _
 have hbw3 : Below w.heap.size w W3 := H1.out.2.trans ((hb2.trans (hb3.mono hb2.size)).mono H1.out.2.size)
 have hsc3 := scAt_below H1.out.1 (hb2.trans (hb3.mono hb2.size))
 have hEa3 := eaAt_below hEa hb3
 have he3 := errOk_below HE.out hbw3
 obtain ⟨be, hbe⟩ : ∃ b, w2.heap.size = b := ⟨_, rfl⟩
 obtain ⟨B, hB⟩ : ∃ b, W3.heap.size = b := ⟨_, rfl⟩
 rw [hbe] at x3
 have HW3e := Hy (An hW3 hbe)
 have HF := Hy (fun wa (hb : Below B W3 wa) => show (wa.cell? ⟨be, 0, none⟩ = some (.string ⟨#[99, 110, 61, 97]⟩) /\ wa.cell? ⟨be, 1, none⟩ = some (.slice (some ⟨pg, 0, none⟩) 3 3)) /\ (∀ L v, MdsAt wa v L -> MdsFew L -> L.length <= 8 -> Calls Tryz.prog 12 #[.pointer (some ⟨g, 0, none⟩), .agg #[.string ⟨#[99, 110, 61, 97]⟩, .slice (some ⟨pg, 0, none⟩) 3 3], v] wa (MtPost [99, 110, 61, 97] (mdApp perA L) wa)) /\ B <= wa.heap.size by
  have hb : Below W3.heap.size W3 wa := by rw [hB]; exact hb
  refine ⟨obj2s (obj_below x3 hb (obj_lt x3)), fun L v hm hfew hl => ?_, by rw [<- hB]; exact hb.size⟩
  exact moapply_any g perA [99, 110, 61, 97] L _ v wa (scAt_below hsc3 hb) (eaAt_below hEa3 hb) ⟨by decide, by decide⟩ hm hfew (.inl hl) (errOk_below he3 hb))
 have HN := Hy (fun wa (hb : Below B W3 wa) d av (A : List Atr) (hA : EaAt wa av A) (hf : FewE A) => monm_any g A d av wa (scAt_below hsc3 (by rw [hB]; exact hb)) hA hf (errOk_below he3 (by rw [hB]; exact hb)))
 have HEa := Hy (fun wa (hb : Below B W3 wa) => eaAt_below hEa3 (by rw [hB]; exact hb))
 have HW3 := Hy (An (show Below B W3 W3 by rw [<- hB]; exact Below.refl _ _) hbw3)
 have HBB := Hy hB
 have HLe := Hy (fun W (h : Below B W3 W) => show B <= W.heap.size by rw [<- hB]; exact h.size)
 have H3b := Hy (show Below B W3 W3 by rw [<- hB]; exact Below.refl _ _)
 have HN1 := Hy (fun wa (hb : Below B W3 wa) => show Calls Tryz.prog 16 #[.pointer (some ⟨g, 0, none⟩), .agg #[.string ⟨#[99, 110, 61, 97]⟩, .slice (some ⟨pg, 0, none⟩) 3 3]] wa (IPost 0 wa) from by have h := HN.out wa hb [99, 110, 61, 97] _ perA (HEa.out wa hb) (by unfold FewE; decide +kernel); rw [aw21_5] at h; exact h)
 have HN2 := Hy (fun wa (hb : Below B W3 wa) av (hA : EaAt wa av awL) => show Calls Tryz.prog 16 #[.pointer (some ⟨g, 0, none⟩), .agg #[.string ⟨#[99, 110, 61, 97]⟩, av]] wa (IPost 64 wa) from by have h := HN.out wa hb [99, 110, 61, 97] _ awL hA (by unfold FewE; decide +kernel); rw [aw21_6] at h; exact h)
 clear hpr hpz hrows hat hb2 hEa hb3 x3 hbw3 hsc3 hEa3 he3 hW3 hbe hB
 go_wp2_with fail
 rw [HW3e.out.1]
 try rw [HW3e.out.2]
 have HB := Hy (fun wa (hbw : Below W3.drew.heap.size W3.drew wa) => HF.out wa (((HW3.out.1.drew).trans (hbw.mono (by show B <= W3.heap.size; rw [HBB.out]; exact Nat.le_refl _)))))
 refine wp_region_noPanic ?_
 refine wp_region_held_drew (S := fun _ => True) (by kernel_rfl) trivial (fun _ => ?_)
 refine reg_go (f := 12) (A := fun j => decide (j < 14)) (D := [16, 17, 18, 19, 20, 21, 22, 23, 24, 25, 15, 26, 27, 3]) (G := awG2 g pg B) (LIT := #[true, true, true, true, true, true, true, true, true, true, true, true, true, true, false, false]) (r := 2) (by kernel_rfl) (by kernel_rfl) (fun _ => by kernel_rfl) (fun _ => rfl) (by kernel_rfl) (fun _ => by kernel_rfl) (fun _ => by kernel_rfl) (by kernel_rfl) (fun j v w w' h _ hb => awG2_mono g pg B j v w w' h hb) (fun _ _ _ _ _ h => h) ?op2 ?yf2 ?rest2
 case op2 =>
  intro i hi hA a wa hbw hsame hdep
  have hlt : i < 14 := by simpa using hA
  have hbx := HB.out _ hbw
  rcases (show i = 0 \/ i = 1 \/ i = 2 \/ i = 3 \/ i = 4 \/ i = 5 \/ i = 6 \/ i = 7 \/ i = 8 \/ i = 9 \/ i = 10 \/ i = 11 \/ i = 12 \/ i = 13 by omega) with rfl | rfl | rfl | rfl | rfl | rfl | rfl | rfl | rfl | rfl | rfl | rfl | rfl | rfl
  ·have hs : a.tmps.getD 1 undef = .pointer (some ⟨g, 0, none⟩) := hsame 1 rfl
   have hs2 : a.eval (.tmp 1) = .pointer (some ⟨g, 0, none⟩) := hs
   have hs2' : a.tmps[1]?.getD undef = .pointer (some ⟨g, 0, none⟩) := (Array.getD_eq_getD_getElem? ..).symm.trans hs2
   refine ⟨rfl, fun K hK => ?_⟩
   simp only [List.getElem_toArray, List.getElem_cons_zero, List.getElem_cons_succ] at hK ⊢
   go_simp
   exact hK _ _ rfl (Below.refl _ _)
  ·have hs : a.eval (.tmp 2) = .pointer (some ⟨be, 0, none⟩) := hsame 2 rfl
   have hs' : a.tmps[2]?.getD undef = .pointer (some ⟨be, 0, none⟩) := (Array.getD_eq_getD_getElem? ..).symm.trans hs
   obtain ⟨c0, c1⟩ := hbx.1
   refine ⟨rfl, fun K hK => ?_⟩
   simp only [List.getElem_toArray, List.getElem_cons_zero, List.getElem_cons_succ] at hK ⊢
   go_simp
   exact hK _ _ rfl (Below.refl _ _)
  ·refine ⟨rfl, fun K hK => ?_⟩
   simp only [List.getElem_toArray, List.getElem_cons_zero, List.getElem_cons_succ] at hK ⊢
   go_simp
   exact hK _ _ ⟨_, rfl, txR_new wa [[120]] _⟩ ((Below.refl _ wa).alloc (Nat.le_refl _) _)
  ·obtain ⟨b18, e18, t18⟩ := hdep 2 18 (by decide) (by kernel_rfl) rfl
   have hs : a.eval (.tmp 18) = .slice (some ⟨b18, 0, none⟩) 1 1 := e18
   have hs' : a.tmps[18]?.getD undef = .slice (some ⟨b18, 0, none⟩) 1 1 := (Array.getD_eq_getD_getElem? ..).symm.trans hs
   rw [e18] at t18
   refine ⟨rfl, fun K hK => ?_⟩
   simp only [List.getElem_toArray, List.getElem_cons_zero, List.getElem_cons_succ] at hK ⊢
   go_simp
   with_reducible refine (momod_any _ _ _ _ _ _).mono ?_
   rintro en w6 ⟨rfl, hb6⟩
   go_simp
   exact hK _ _ ⟨some ⟨b18, 0, none⟩, 1, rfl, txR_below t18 hb6, .inr ⟨_, _, _, rfl⟩⟩ hb6
  ·refine ⟨rfl, fun K hK => ?_⟩
   simp only [List.getElem_toArray, List.getElem_cons_zero, List.getElem_cons_succ] at hK ⊢
   go_simp
   exact hK _ _ ⟨_, rfl, txR_new wa [[66]] _⟩ ((Below.refl _ wa).alloc (Nat.le_refl _) _)
  ·obtain ⟨b18, e18, t18⟩ := hdep 4 20 (by decide) (by kernel_rfl) rfl
   have hs : a.eval (.tmp 20) = .slice (some ⟨b18, 0, none⟩) 1 1 := e18
   have hs' : a.tmps[20]?.getD undef = .slice (some ⟨b18, 0, none⟩) 1 1 := (Array.getD_eq_getD_getElem? ..).symm.trans hs
   rw [e18] at t18
   refine ⟨rfl, fun K hK => ?_⟩
   simp only [List.getElem_toArray, List.getElem_cons_zero, List.getElem_cons_succ] at hK ⊢
   go_simp
   with_reducible refine (momod_any _ _ _ _ _ _).mono ?_
   rintro en w6 ⟨rfl, hb6⟩
   go_simp
   exact hK _ _ ⟨some ⟨b18, 0, none⟩, 1, rfl, txR_below t18 hb6, .inr ⟨_, _, _, rfl⟩⟩ hb6
  ·refine ⟨rfl, fun K hK => ?_⟩
   simp only [List.getElem_toArray, List.getElem_cons_zero, List.getElem_cons_succ] at hK ⊢
   go_simp
   exact hK _ _ ⟨_, rfl, txR_new wa [[122]] _⟩ ((Below.refl _ wa).alloc (Nat.le_refl _) _)
  ·obtain ⟨b18, e18, t18⟩ := hdep 6 22 (by decide) (by kernel_rfl) rfl
   have hs : a.eval (.tmp 22) = .slice (some ⟨b18, 0, none⟩) 1 1 := e18
   have hs' : a.tmps[22]?.getD undef = .slice (some ⟨b18, 0, none⟩) 1 1 := (Array.getD_eq_getD_getElem? ..).symm.trans hs
   rw [e18] at t18
   refine ⟨rfl, fun K hK => ?_⟩
   simp only [List.getElem_toArray, List.getElem_cons_zero, List.getElem_cons_succ] at hK ⊢
   go_simp
   with_reducible refine (momod_any _ _ _ _ _ _).mono ?_
   rintro en w6 ⟨rfl, hb6⟩
   go_simp
   exact hK _ _ ⟨some ⟨b18, 0, none⟩, 1, rfl, txR_below t18 hb6, .inr ⟨_, _, _, rfl⟩⟩ hb6
  ·obtain ⟨a0, c0, e0, t0, k0⟩ := hdep 3 19 (by decide) (by kernel_rfl) rfl
   have hs0 : a.eval (.tmp 19) = .agg #[.int .i64 0, .string ⟨#[109, 97, 105, 108]⟩, .slice a0 1 c0] := e0
   have hs0' : a.tmps[19]?.getD undef = .agg #[.int .i64 0, .string ⟨#[109, 97, 105, 108]⟩, .slice a0 1 c0] := (Array.getD_eq_getD_getElem? ..).symm.trans hs0
   obtain ⟨a1, c1, e1, t1, k1⟩ := hdep 5 21 (by decide) (by kernel_rfl) rfl
   have hs1 : a.eval (.tmp 21) = .agg #[.int .i64 1, .string ⟨#[83, 78]⟩, .slice a1 1 c1] := e1
   have hs1' : a.tmps[21]?.getD undef = .agg #[.int .i64 1, .string ⟨#[83, 78]⟩, .slice a1 1 c1] := (Array.getD_eq_getD_getElem? ..).symm.trans hs1
   obtain ⟨a2, c2, e2, t2, k2⟩ := hdep 7 23 (by decide) (by kernel_rfl) rfl
   have hs2 : a.eval (.tmp 23) = .agg #[.int .i64 2, .string ⟨#[99, 110]⟩, .slice a2 1 c2] := e2
   have hs2' : a.tmps[23]?.getD undef = .agg #[.int .i64 2, .string ⟨#[99, 110]⟩, .slice a2 1 c2] := (Array.getD_eq_getD_getElem? ..).symm.trans hs2
   refine ⟨rfl, fun K hK => ?_⟩
   simp only [List.getElem_toArray, List.getElem_cons_zero, List.getElem_cons_succ] at hK ⊢
   go_simp
   exact hK _ _ ⟨_, _, rfl, mdsAt_three (m1 := (0, ([109, 97, 105, 108], [[120]]))) (m2 := (1, ([83, 78], [[66]]))) (m3 := (2, ([99, 110], [[122]]))) t0 k0 t1 k1 t2 k2⟩ ((Below.refl _ wa).alloc (Nat.le_refl _) _)
  ·obtain ⟨ma, mc, em0, hm⟩ := hdep 8 24 (by decide) (by kernel_rfl) rfl
   have hs0 : a.eval (.tmp 24) = .slice ma 3 mc := em0
   have hs0' : a.tmps[24]?.getD undef = .slice ma 3 mc := (Array.getD_eq_getD_getElem? ..).symm.trans hs0
   rw [em0] at hm
   clear em0
   have hs1 : a.eval (.tmp 16) = .pointer (some ⟨g, 0, none⟩) := hdep 0 16 (by decide) (by kernel_rfl) rfl
   have hs1' : a.tmps[16]?.getD undef = .pointer (some ⟨g, 0, none⟩) := (Array.getD_eq_getD_getElem? ..).symm.trans hs1
   have hs2 : a.eval (.tmp 17) = .agg #[.string ⟨#[99, 110, 61, 97]⟩, .slice (some ⟨pg, 0, none⟩) 3 3] := hdep 1 17 (by decide) (by kernel_rfl) rfl
   have hs2' : a.tmps[17]?.getD undef = .agg #[.string ⟨#[99, 110, 61, 97]⟩, .slice (some ⟨pg, 0, none⟩) 3 3] := (Array.getD_eq_getD_getElem? ..).symm.trans hs2
   have hAp := hbx.2.1 awM (.slice ma 3 mc) hm (by unfold MdsFew; decide) (by decide)
   refine ⟨rfl, fun K hK => ?_⟩
   simp only [List.getElem_toArray, List.getElem_cons_zero, List.getElem_cons_succ] at hK ⊢
   go_simp
   with_reducible refine hAp.mono ?_
   rintro en w6 hpost
   rw [aw21_1] at hpost
   obtain ⟨v, rfl, hpa⟩ := hpost.2.1 rfl
   obtain ⟨va, vc, rfl⟩ := paAt_slice hpa
   go_simp
   exact hK _ _ ⟨_, va, _, vc, rfl, fun _ => ⟨rfl, hpa⟩⟩ hpost.2.2
  ·obtain ⟨d, xa, xn, xc, e, hp⟩ := hdep 9 25 (by decide) (by kernel_rfl) rfl
   have hs : a.eval (.tmp 25) = _ := e
   have hs' := (Array.getD_eq_getD_getElem? (xs := a.tmps) (i := 25) (d := undef)).symm.trans hs
   have HP := Hy hp
   clear hp
   refine ⟨rfl, fun K hK => ?_⟩
   simp only [List.getElem_toArray, List.getElem_cons_zero, List.getElem_cons_succ] at hK ⊢
   go_simp
   exact hK _ _ ⟨d, xa, xn, xc, rfl, HP.out⟩ (Below.refl _ _)
  ·obtain ⟨d, xa, xn, xc, e, hp⟩ := hdep 10 15 (by decide) (by kernel_rfl) rfl
   have hs : a.eval (.tmp 15) = _ := e
   have hs' := (Array.getD_eq_getD_getElem? (xs := a.tmps) (i := 15) (d := undef)).symm.trans hs
   have HP := Hy hp
   clear hp
   refine ⟨rfl, fun K hK => ?_⟩
   simp only [List.getElem_toArray, List.getElem_cons_zero, List.getElem_cons_succ] at hK ⊢
   go_simp
   exact hK _ _ ⟨d, xa, xn, xc, rfl, HP.out⟩ (Below.refl _ _)
  ·obtain ⟨d, xa, xn, xc, e, hp⟩ := hdep 10 15 (by decide) (by kernel_rfl) rfl
   have hs : a.eval (.tmp 15) = _ := e
   have hs' := (Array.getD_eq_getD_getElem? (xs := a.tmps) (i := 15) (d := undef)).symm.trans hs
   clear hp
   refine ⟨rfl, fun K hK => ?_⟩
   simp only [List.getElem_toArray, List.getElem_cons_zero, List.getElem_cons_succ] at hK ⊢
   go_simp
   exact hK _ _ rfl (Below.refl _ _)
  ·refine ⟨rfl, fun K hK => ?_⟩
   simp only [List.getElem_toArray, List.getElem_cons_zero, List.getElem_cons_succ] at hK ⊢
   go_simp
   exact hK _ _ ⟨_, rfl, heap_alloc_new wa _, hbx.2.2⟩ ((Below.refl _ wa).alloc (Nat.le_refl _) _)
 case yf2 =>
  intro hf a wa hdep
  obtain ⟨d, xa, xn, xc, e, hp⟩ := hdep 10 15 (by decide) (by kernel_rfl) rfl
  have hs : a.eval (.tmp 15) = _ := e
  have hs' := (Array.getD_eq_getD_getElem? (xs := a.tmps) (i := 15) (d := undef)).symm.trans hs
  clear hp
  refine ⟨.int .i64 (awL, 0).2, .inl ⟨rfl, fun w' _ => ?_⟩, rfl⟩
  simp only [List.getElem_toArray, List.getElem_cons_zero, List.getElem_cons_succ]
  go_simp
 case rest2 =>
  intro fuel a wa hbw ha hG
  have ge0 := hG 11 26 (by decide) rfl rfl
  have ge1 : a.tmps.getD 27 undef = .int .i64 (awL, 0).2 := hG 12 27 (by decide) rfl rfl
  have gbx := hG 13 3 (by decide) rfl rfl
  obtain ⟨ed, ea, en, ec, hx0, hpz⟩ := ge0
  obtain ⟨rfl, hpa⟩ := hpz rfl
  clear hpz
  obtain ⟨bb, hxb, hbk, hbB⟩ := gbx
  obtain ⟨x16, hx16⟩ : ∃ x, a.tmps.getD 16 undef = x := ⟨_, rfl⟩
  obtain ⟨x17, hx17⟩ : ∃ x, a.tmps.getD 17 undef = x := ⟨_, rfl⟩
  obtain ⟨x18, hx18⟩ : ∃ x, a.tmps.getD 18 undef = x := ⟨_, rfl⟩
  obtain ⟨x19, hx19⟩ : ∃ x, a.tmps.getD 19 undef = x := ⟨_, rfl⟩
  obtain ⟨x20, hx20⟩ : ∃ x, a.tmps.getD 20 undef = x := ⟨_, rfl⟩
  obtain ⟨x21, hx21⟩ : ∃ x, a.tmps.getD 21 undef = x := ⟨_, rfl⟩
  obtain ⟨x22, hx22⟩ : ∃ x, a.tmps.getD 22 undef = x := ⟨_, rfl⟩
  obtain ⟨x23, hx23⟩ : ∃ x, a.tmps.getD 23 undef = x := ⟨_, rfl⟩
  obtain ⟨x24, hx24⟩ : ∃ x, a.tmps.getD 24 undef = x := ⟨_, rfl⟩
  obtain ⟨x25, hx25⟩ : ∃ x, a.tmps.getD 25 undef = x := ⟨_, rfl⟩
  obtain ⟨x15, hx15⟩ : ∃ x, a.tmps.getD 15 undef = x := ⟨_, rfl⟩
  simp only [List.foldl_cons, List.foldl_nil, hx0, ge1, hxb, hx16, hx17, hx18, hx19, hx20, hx21, hx22, hx23, hx24, hx25, hx15, Act.put, List.setIfInBounds_toArray, List.set_cons_zero, List.set_cons_succ] at ha
  clear hx0 ge1 hxb hx16 hx17 hx18 hx19 hx20 hx21 hx22 hx23 hx24 hx25 hx15 hG
  subst ha
  have HQ := HB.out _ hbw
  obtain ⟨q0, q1⟩ := obj2s hbk
  have u0 := obj_free hbk 0
  have u1 := obj_free hbk 1
  refine wpAnyH_ready (rs := [14]) (by kernel_rfl) (by simp) ?_
  refine AllReadyH.cons (o := _) rfl (fun KR hKR => ?ca2) AllReadyH.nil
  go_simp
  refine hKR.out _ _ trivial (fun _ => ?_)
  clear hKR KR
  try simp only [List.getElem_toArray, List.getElem_cons_zero, List.getElem_cons_succ, Act.put, List.setIfInBounds_toArray, List.set_cons_zero, List.set_cons_succ]
  refine wpAnyH_ready (rs := [15]) (by kernel_rfl) (by simp) ?_
  refine AllReadyH.cons (o := _) rfl (fun KR hKR => ?cb2) AllReadyH.nil
  go_simp
  refine hKR.out _ _ trivial (fun _ => ?_)
  clear hKR KR
  try simp only [List.getElem_toArray, List.getElem_cons_zero, List.getElem_cons_succ, Act.put, List.setIfInBounds_toArray, List.set_cons_zero, List.set_cons_succ]
  refine wpAnyH_done (by kernel_rfl) ?_ _
  refine NoPanic.normal ?_
  have hbp : Below W3.heap.size W3 wa := (Below.refl _ W3).drew.trans hbw
  obtain ⟨W4, hWn⟩ : ∃ W, (wa.setCell ⟨bb, 0, none⟩ (.string ⟨#[99, 110, 61, 97]⟩)).setCell ⟨bb, 1, none⟩ (.slice ea en ec) = W := ⟨_, rfl⟩
  have hbn : Below W3.heap.size W3 W4 := by rw [<- hWn]; exact below_e2 hbp (by have := HBB.out; omega) _ _
  have x4 := set2_e hbk (.string ⟨#[99, 110, 61, 97]⟩) (.slice ea en ec)
  have hpa4 := paAt_set2 hpa hbk (by decide) (by decide) (.string ⟨#[99, 110, 61, 97]⟩) (.slice ea en ec)
  rw [hWn] at x4 hpa4 ⊢
  obtain rfl : en = 3 := by obtain ⟨_, _, hsl⟩ := paAt_slice hpa4; injection hsl with _ hen _
  obtain ⟨b1, hbb1⟩ : ∃ b, bb = b := ⟨_, rfl⟩
  rw [hbb1] at x4 ⊢
  have H4 := Hy (An (H3b.out.trans (hbn.mono (by rw [HBB.out]; exact Nat.le_refl _))) (An x4 hpa4))
  clear hbp hWn hbn x4 hpa4 hpa hbb1 hbw hbk hbB HQ q0 q1 u0 u1 HB
  go_wp2_with fail
  have HB := Hy (fun wa (hbw : Below W4.drew.heap.size W4.drew wa) => show (wa.cell? ⟨be, 0, none⟩ = some (.string ⟨#[99, 110, 61, 97]⟩) /\ wa.cell? ⟨be, 1, none⟩ = some (.slice (some ⟨pg, 0, none⟩) 3 3)) /\ (∀ L v, MdsAt wa v L -> MdsFew L -> L.length <= 8 -> Calls Tryz.prog 12 #[.pointer (some ⟨g, 0, none⟩), .agg #[.string ⟨#[99, 110, 61, 97]⟩, .slice (some ⟨pg, 0, none⟩) 3 3], v] wa (MtPost [99, 110, 61, 97] (mdApp perA L) wa)) /\ W4.heap.size <= wa.heap.size from by have h := HF.out wa (H4.out.1.trans ((Below.refl _ W4).drew.trans hbw |>.mono (HLe.out W4 H4.out.1))); exact ⟨h.1, h.2.1, ((Below.refl _ W4).drew.trans hbw).size⟩)
  refine wp_region_noPanic ?_
  refine wp_region_held_drew (S := fun _ => True) (by kernel_rfl) trivial (fun _ => ?_)
  refine reg_go (f := 7) (A := fun j => decide (j < 9)) (D := [29, 30, 31, 32, 33, 28, 34, 35, 5]) (G := awG3 g pg W4.heap.size) (LIT := #[true, true, true, true, true, true, true, true, true, false, false]) (r := 2) (by kernel_rfl) (by kernel_rfl) (fun _ => by kernel_rfl) (fun _ => rfl) (by kernel_rfl) (fun _ => by kernel_rfl) (fun _ => by kernel_rfl) (by kernel_rfl) (fun j v w w' h _ hb => awG3_mono g pg W4.heap.size j v w w' h hb) (fun _ _ _ _ _ h => h) ?op3 ?yf3 ?rest3
  case op3 =>
   intro i hi hA a wa hbw hsame hdep
   have hlt : i < 9 := by simpa using hA
   have hbx := HB.out _ hbw
   rcases (show i = 0 \/ i = 1 \/ i = 2 \/ i = 3 \/ i = 4 \/ i = 5 \/ i = 6 \/ i = 7 \/ i = 8 by omega) with rfl | rfl | rfl | rfl | rfl | rfl | rfl | rfl | rfl
   ·have hs : a.tmps.getD 1 undef = .pointer (some ⟨g, 0, none⟩) := hsame 1 rfl
    have hs2 : a.eval (.tmp 1) = .pointer (some ⟨g, 0, none⟩) := hs
    have hs2' : a.tmps[1]?.getD undef = .pointer (some ⟨g, 0, none⟩) := (Array.getD_eq_getD_getElem? ..).symm.trans hs2
    refine ⟨rfl, fun K hK => ?_⟩
    simp only [List.getElem_toArray, List.getElem_cons_zero, List.getElem_cons_succ] at hK ⊢
    go_simp
    exact hK _ _ rfl (Below.refl _ _)
   ·have hs : a.eval (.tmp 2) = .pointer (some ⟨be, 0, none⟩) := hsame 2 rfl
    have hs' : a.tmps[2]?.getD undef = .pointer (some ⟨be, 0, none⟩) := (Array.getD_eq_getD_getElem? ..).symm.trans hs
    obtain ⟨c0, c1⟩ := hbx.1
    refine ⟨rfl, fun K hK => ?_⟩
    simp only [List.getElem_toArray, List.getElem_cons_zero, List.getElem_cons_succ] at hK ⊢
    go_simp
    exact hK _ _ rfl (Below.refl _ _)
   ·refine ⟨rfl, fun K hK => ?_⟩
    simp only [List.getElem_toArray, List.getElem_cons_zero, List.getElem_cons_succ] at hK ⊢
    go_simp
    with_reducible refine (momod_any _ _ _ _ _ _).mono ?_
    rintro en w6 ⟨rfl, hb6⟩
    go_simp
    exact hK _ _ ⟨none, 0, rfl, txR_nil _ _ _, .inl rfl⟩ hb6
   ·obtain ⟨a0, c0, e0, t0, k0⟩ := hdep 2 31 (by decide) (by kernel_rfl) rfl
    have hs0 : a.eval (.tmp 31) = .agg #[.int .i64 1, .string ⟨#[109, 97, 105, 108]⟩, .slice a0 0 c0] := e0
    have hs0' : a.tmps[31]?.getD undef = .agg #[.int .i64 1, .string ⟨#[109, 97, 105, 108]⟩, .slice a0 0 c0] := (Array.getD_eq_getD_getElem? ..).symm.trans hs0
    refine ⟨rfl, fun K hK => ?_⟩
    simp only [List.getElem_toArray, List.getElem_cons_zero, List.getElem_cons_succ] at hK ⊢
    go_simp
    exact hK _ _ ⟨_, _, rfl, mdsAt_one (m := (1, ([109, 97, 105, 108], []))) t0 k0⟩ ((Below.refl _ wa).alloc (Nat.le_refl _) _)
   ·obtain ⟨ma, mc, em0, hm⟩ := hdep 3 32 (by decide) (by kernel_rfl) rfl
    have hs0 : a.eval (.tmp 32) = .slice ma 1 mc := em0
    have hs0' : a.tmps[32]?.getD undef = .slice ma 1 mc := (Array.getD_eq_getD_getElem? ..).symm.trans hs0
    rw [em0] at hm
    clear em0
    have hs1 : a.eval (.tmp 29) = .pointer (some ⟨g, 0, none⟩) := hdep 0 29 (by decide) (by kernel_rfl) rfl
    have hs1' : a.tmps[29]?.getD undef = .pointer (some ⟨g, 0, none⟩) := (Array.getD_eq_getD_getElem? ..).symm.trans hs1
    have hs2 : a.eval (.tmp 30) = .agg #[.string ⟨#[99, 110, 61, 97]⟩, .slice (some ⟨pg, 0, none⟩) 3 3] := hdep 1 30 (by decide) (by kernel_rfl) rfl
    have hs2' : a.tmps[30]?.getD undef = .agg #[.string ⟨#[99, 110, 61, 97]⟩, .slice (some ⟨pg, 0, none⟩) 3 3] := (Array.getD_eq_getD_getElem? ..).symm.trans hs2
    have hAp := hbx.2.1 [(1, ([109, 97, 105, 108], []))] (.slice ma 1 mc) hm (by unfold MdsFew; decide) (by decide)
    refine ⟨rfl, fun K hK => ?_⟩
    simp only [List.getElem_toArray, List.getElem_cons_zero, List.getElem_cons_succ] at hK ⊢
    go_simp
    with_reducible refine hAp.mono ?_
    rintro en w6 hpost
    have hne : (mdApp perA [(1, ([109, 97, 105, 108], []))]).2 ≠ 0 := by rw [aw21_2]; decide
    obtain rfl := hpost.1 hne
    go_simp
    exact hK _ _ ⟨#[], none, 0, 0, rfl, fun h => absurd h hne⟩ hpost.2.2
   ·obtain ⟨d, xa, xn, xc, e, hp⟩ := hdep 4 33 (by decide) (by kernel_rfl) rfl
    have hs : a.eval (.tmp 33) = _ := e
    have hs' := (Array.getD_eq_getD_getElem? (xs := a.tmps) (i := 33) (d := undef)).symm.trans hs
    have HP := Hy hp
    clear hp
    refine ⟨rfl, fun K hK => ?_⟩
    simp only [List.getElem_toArray, List.getElem_cons_zero, List.getElem_cons_succ] at hK ⊢
    go_simp
    exact hK _ _ ⟨d, xa, xn, xc, rfl, HP.out⟩ (Below.refl _ _)
   ·obtain ⟨d, xa, xn, xc, e, hp⟩ := hdep 5 28 (by decide) (by kernel_rfl) rfl
    have hs : a.eval (.tmp 28) = _ := e
    have hs' := (Array.getD_eq_getD_getElem? (xs := a.tmps) (i := 28) (d := undef)).symm.trans hs
    have HP := Hy hp
    clear hp
    refine ⟨rfl, fun K hK => ?_⟩
    simp only [List.getElem_toArray, List.getElem_cons_zero, List.getElem_cons_succ] at hK ⊢
    go_simp
    exact hK _ _ ⟨d, xa, xn, xc, rfl, HP.out⟩ (Below.refl _ _)
   ·obtain ⟨d, xa, xn, xc, e, hp⟩ := hdep 5 28 (by decide) (by kernel_rfl) rfl
    have hs : a.eval (.tmp 28) = _ := e
    have hs' := (Array.getD_eq_getD_getElem? (xs := a.tmps) (i := 28) (d := undef)).symm.trans hs
    clear hp
    refine ⟨rfl, fun K hK => ?_⟩
    simp only [List.getElem_toArray, List.getElem_cons_zero, List.getElem_cons_succ] at hK ⊢
    go_simp
    exact hK _ _ rfl (Below.refl _ _)
   ·refine ⟨rfl, fun K hK => ?_⟩
    simp only [List.getElem_toArray, List.getElem_cons_zero, List.getElem_cons_succ] at hK ⊢
    go_simp
    exact hK _ _ ⟨_, rfl, heap_alloc_new wa _, hbx.2.2⟩ ((Below.refl _ wa).alloc (Nat.le_refl _) _)
  case yf3 =>
   intro hf a wa hdep
   obtain ⟨d, xa, xn, xc, e, hp⟩ := hdep 5 28 (by decide) (by kernel_rfl) rfl
   have hs : a.eval (.tmp 28) = _ := e
   have hs' := (Array.getD_eq_getD_getElem? (xs := a.tmps) (i := 28) (d := undef)).symm.trans hs
   clear hp
   refine ⟨.int .i64 (mdApp perA [(1, ([109, 97, 105, 108], []))]).2, .inl ⟨rfl, fun w' _ => ?_⟩, rfl⟩
   simp only [List.getElem_toArray, List.getElem_cons_zero, List.getElem_cons_succ]
   go_simp
  case rest3 =>
   intro fuel a wa hbw ha hG
   have ge0 := hG 6 34 (by decide) rfl rfl
   have ge1 : a.tmps.getD 35 undef = .int .i64 (mdApp perA [(1, ([109, 97, 105, 108], []))]).2 := hG 7 35 (by decide) rfl rfl
   have gbx := hG 8 5 (by decide) rfl rfl
   obtain ⟨ed, ea, en, ec, hx0, _⟩ := ge0
   rw [aw21_2] at ge1
   obtain ⟨bb, hxb, hbk, hbB⟩ := gbx
   obtain ⟨x29, hx29⟩ : ∃ x, a.tmps.getD 29 undef = x := ⟨_, rfl⟩
   obtain ⟨x30, hx30⟩ : ∃ x, a.tmps.getD 30 undef = x := ⟨_, rfl⟩
   obtain ⟨x31, hx31⟩ : ∃ x, a.tmps.getD 31 undef = x := ⟨_, rfl⟩
   obtain ⟨x32, hx32⟩ : ∃ x, a.tmps.getD 32 undef = x := ⟨_, rfl⟩
   obtain ⟨x33, hx33⟩ : ∃ x, a.tmps.getD 33 undef = x := ⟨_, rfl⟩
   obtain ⟨x28, hx28⟩ : ∃ x, a.tmps.getD 28 undef = x := ⟨_, rfl⟩
   simp only [List.foldl_cons, List.foldl_nil, hx0, ge1, hxb, hx29, hx30, hx31, hx32, hx33, hx28, Act.put, List.setIfInBounds_toArray, List.set_cons_zero, List.set_cons_succ] at ha
   clear hx0 ge1 hxb hx29 hx30 hx31 hx32 hx33 hx28 hG
   subst ha
   have HQ := HB.out _ hbw
   obtain ⟨q0, q1⟩ := obj2s hbk
   have u0 := obj_free hbk 0
   have u1 := obj_free hbk 1
   refine wpAnyH_ready (rs := [9]) (by kernel_rfl) (by simp) ?_
   refine AllReadyH.cons (o := _) rfl (fun KR hKR => ?ca3) AllReadyH.nil
   go_simp
   refine hKR.out _ _ trivial (fun _ => ?_)
   clear hKR KR
   try simp only [List.getElem_toArray, List.getElem_cons_zero, List.getElem_cons_succ, Act.put, List.setIfInBounds_toArray, List.set_cons_zero, List.set_cons_succ]
   refine wpAnyH_ready (rs := [10]) (by kernel_rfl) (by simp) ?_
   refine AllReadyH.cons (o := _) rfl (fun KR hKR => ?cb3) AllReadyH.nil
   go_simp
   refine hKR.out _ _ trivial (fun _ => ?_)
   clear hKR KR
   try simp only [List.getElem_toArray, List.getElem_cons_zero, List.getElem_cons_succ, Act.put, List.setIfInBounds_toArray, List.set_cons_zero, List.set_cons_succ]
   refine wpAnyH_done (by kernel_rfl) ?_ _
   refine NoPanic.normal ?_
   have hbp : Below W4.heap.size W4 wa := (Below.refl _ W4).drew.trans hbw
   obtain ⟨W5, hWn⟩ : ∃ W, (wa.setCell ⟨bb, 0, none⟩ (.string ⟨ed⟩)).setCell ⟨bb, 1, none⟩ (.slice ea en ec) = W := ⟨_, rfl⟩
   have hbn : Below W4.heap.size W4 W5 := by rw [<- hWn]; exact below_e2 hbp (by have := HBB.out; omega) _ _
   rw [hWn]
   have H5 := Hy (An (H4.out.1.trans (hbn.mono (HLe.out _ H4.out.1))) (An (obj_below H4.out.2.1 hbn (obj_lt H4.out.2.1)) (paAt_below H4.out.2.2 hbn)))
   clear hbp hWn hbn hbw hbk hbB HQ q0 q1 u0 u1 HB
   go_wp2_with fail
   have HB := Hy (fun wa (hbw : Below W5.drew.heap.size W5.drew wa) => show (wa.cell? ⟨be, 0, none⟩ = some (.string ⟨#[99, 110, 61, 97]⟩) /\ wa.cell? ⟨be, 1, none⟩ = some (.slice (some ⟨pg, 0, none⟩) 3 3)) /\ (∀ L v, MdsAt wa v L -> MdsFew L -> L.length <= 8 -> Calls Tryz.prog 12 #[.pointer (some ⟨g, 0, none⟩), .agg #[.string ⟨#[99, 110, 61, 97]⟩, .slice (some ⟨pg, 0, none⟩) 3 3], v] wa (MtPost [99, 110, 61, 97] (mdApp perA L) wa)) /\ W5.heap.size <= wa.heap.size from by have h := HF.out wa (H5.out.1.trans ((Below.refl _ W5).drew.trans hbw |>.mono (HLe.out W5 H5.out.1))); exact ⟨h.1, h.2.1, ((Below.refl _ W5).drew.trans hbw).size⟩)
   refine wp_region_noPanic ?_
   refine wp_region_held_drew (S := fun _ => True) (by kernel_rfl) trivial (fun _ => ?_)
   refine reg_go (f := 8) (A := fun j => decide (j < 10)) (D := [37, 38, 39, 40, 41, 42, 36, 43, 44, 7]) (G := awG4 g pg W5.heap.size) (LIT := #[true, true, true, true, true, true, true, true, true, true, false, false]) (r := 2) (by kernel_rfl) (by kernel_rfl) (fun _ => by kernel_rfl) (fun _ => rfl) (by kernel_rfl) (fun _ => by kernel_rfl) (fun _ => by kernel_rfl) (by kernel_rfl) (fun j v w w' h _ hb => awG4_mono g pg W5.heap.size j v w w' h hb) (fun _ _ _ _ _ h => h) ?op4 ?yf4 ?rest4
   case op4 =>
    intro i hi hA a wa hbw hsame hdep
    have hlt : i < 10 := by simpa using hA
    have hbx := HB.out _ hbw
    rcases (show i = 0 \/ i = 1 \/ i = 2 \/ i = 3 \/ i = 4 \/ i = 5 \/ i = 6 \/ i = 7 \/ i = 8 \/ i = 9 by omega) with rfl | rfl | rfl | rfl | rfl | rfl | rfl | rfl | rfl | rfl
    ·have hs : a.tmps.getD 1 undef = .pointer (some ⟨g, 0, none⟩) := hsame 1 rfl
     have hs2 : a.eval (.tmp 1) = .pointer (some ⟨g, 0, none⟩) := hs
     have hs2' : a.tmps[1]?.getD undef = .pointer (some ⟨g, 0, none⟩) := (Array.getD_eq_getD_getElem? ..).symm.trans hs2
     refine ⟨rfl, fun K hK => ?_⟩
     simp only [List.getElem_toArray, List.getElem_cons_zero, List.getElem_cons_succ] at hK ⊢
     go_simp
     exact hK _ _ rfl (Below.refl _ _)
    ·have hs : a.eval (.tmp 2) = .pointer (some ⟨be, 0, none⟩) := hsame 2 rfl
     have hs' : a.tmps[2]?.getD undef = .pointer (some ⟨be, 0, none⟩) := (Array.getD_eq_getD_getElem? ..).symm.trans hs
     obtain ⟨c0, c1⟩ := hbx.1
     refine ⟨rfl, fun K hK => ?_⟩
     simp only [List.getElem_toArray, List.getElem_cons_zero, List.getElem_cons_succ] at hK ⊢
     go_simp
     exact hK _ _ rfl (Below.refl _ _)
    ·refine ⟨rfl, fun K hK => ?_⟩
     simp only [List.getElem_toArray, List.getElem_cons_zero, List.getElem_cons_succ] at hK ⊢
     go_simp
     exact hK _ _ ⟨_, rfl, txR_new wa [[65]] _⟩ ((Below.refl _ wa).alloc (Nat.le_refl _) _)
    ·obtain ⟨b18, e18, t18⟩ := hdep 2 39 (by decide) (by kernel_rfl) rfl
     have hs : a.eval (.tmp 39) = .slice (some ⟨b18, 0, none⟩) 1 1 := e18
     have hs' : a.tmps[39]?.getD undef = .slice (some ⟨b18, 0, none⟩) 1 1 := (Array.getD_eq_getD_getElem? ..).symm.trans hs
     rw [e18] at t18
     refine ⟨rfl, fun K hK => ?_⟩
     simp only [List.getElem_toArray, List.getElem_cons_zero, List.getElem_cons_succ] at hK ⊢
     go_simp
     with_reducible refine (momod_any _ _ _ _ _ _).mono ?_
     rintro en w6 ⟨rfl, hb6⟩
     go_simp
     exact hK _ _ ⟨some ⟨b18, 0, none⟩, 1, rfl, txR_below t18 hb6, .inr ⟨_, _, _, rfl⟩⟩ hb6
    ·obtain ⟨a0, c0, e0, t0, k0⟩ := hdep 3 40 (by decide) (by kernel_rfl) rfl
     have hs0 : a.eval (.tmp 40) = .agg #[.int .i64 0, .string ⟨#[99, 110]⟩, .slice a0 1 c0] := e0
     have hs0' : a.tmps[40]?.getD undef = .agg #[.int .i64 0, .string ⟨#[99, 110]⟩, .slice a0 1 c0] := (Array.getD_eq_getD_getElem? ..).symm.trans hs0
     refine ⟨rfl, fun K hK => ?_⟩
     simp only [List.getElem_toArray, List.getElem_cons_zero, List.getElem_cons_succ] at hK ⊢
     go_simp
     exact hK _ _ ⟨_, _, rfl, mdsAt_one (m := (0, ([99, 110], [[65]]))) t0 k0⟩ ((Below.refl _ wa).alloc (Nat.le_refl _) _)
    ·obtain ⟨ma, mc, em0, hm⟩ := hdep 4 41 (by decide) (by kernel_rfl) rfl
     have hs0 : a.eval (.tmp 41) = .slice ma 1 mc := em0
     have hs0' : a.tmps[41]?.getD undef = .slice ma 1 mc := (Array.getD_eq_getD_getElem? ..).symm.trans hs0
     rw [em0] at hm
     clear em0
     have hs1 : a.eval (.tmp 37) = .pointer (some ⟨g, 0, none⟩) := hdep 0 37 (by decide) (by kernel_rfl) rfl
     have hs1' : a.tmps[37]?.getD undef = .pointer (some ⟨g, 0, none⟩) := (Array.getD_eq_getD_getElem? ..).symm.trans hs1
     have hs2 : a.eval (.tmp 38) = .agg #[.string ⟨#[99, 110, 61, 97]⟩, .slice (some ⟨pg, 0, none⟩) 3 3] := hdep 1 38 (by decide) (by kernel_rfl) rfl
     have hs2' : a.tmps[38]?.getD undef = .agg #[.string ⟨#[99, 110, 61, 97]⟩, .slice (some ⟨pg, 0, none⟩) 3 3] := (Array.getD_eq_getD_getElem? ..).symm.trans hs2
     have hAp := hbx.2.1 [(0, ([99, 110], [[65]]))] (.slice ma 1 mc) hm (by unfold MdsFew; decide) (by decide)
     refine ⟨rfl, fun K hK => ?_⟩
     simp only [List.getElem_toArray, List.getElem_cons_zero, List.getElem_cons_succ] at hK ⊢
     go_simp
     with_reducible refine hAp.mono ?_
     rintro en w6 hpost
     have hne : (mdApp perA [(0, ([99, 110], [[65]]))]).2 ≠ 0 := by rw [aw21_3]; decide
     obtain rfl := hpost.1 hne
     go_simp
     exact hK _ _ ⟨#[], none, 0, 0, rfl, fun h => absurd h hne⟩ hpost.2.2
    ·obtain ⟨d, xa, xn, xc, e, hp⟩ := hdep 5 42 (by decide) (by kernel_rfl) rfl
     have hs : a.eval (.tmp 42) = _ := e
     have hs' := (Array.getD_eq_getD_getElem? (xs := a.tmps) (i := 42) (d := undef)).symm.trans hs
     have HP := Hy hp
     clear hp
     refine ⟨rfl, fun K hK => ?_⟩
     simp only [List.getElem_toArray, List.getElem_cons_zero, List.getElem_cons_succ] at hK ⊢
     go_simp
     exact hK _ _ ⟨d, xa, xn, xc, rfl, HP.out⟩ (Below.refl _ _)
    ·obtain ⟨d, xa, xn, xc, e, hp⟩ := hdep 6 36 (by decide) (by kernel_rfl) rfl
     have hs : a.eval (.tmp 36) = _ := e
     have hs' := (Array.getD_eq_getD_getElem? (xs := a.tmps) (i := 36) (d := undef)).symm.trans hs
     have HP := Hy hp
     clear hp
     refine ⟨rfl, fun K hK => ?_⟩
     simp only [List.getElem_toArray, List.getElem_cons_zero, List.getElem_cons_succ] at hK ⊢
     go_simp
     exact hK _ _ ⟨d, xa, xn, xc, rfl, HP.out⟩ (Below.refl _ _)
    ·obtain ⟨d, xa, xn, xc, e, hp⟩ := hdep 6 36 (by decide) (by kernel_rfl) rfl
     have hs : a.eval (.tmp 36) = _ := e
     have hs' := (Array.getD_eq_getD_getElem? (xs := a.tmps) (i := 36) (d := undef)).symm.trans hs
     clear hp
     refine ⟨rfl, fun K hK => ?_⟩
     simp only [List.getElem_toArray, List.getElem_cons_zero, List.getElem_cons_succ] at hK ⊢
     go_simp
     exact hK _ _ rfl (Below.refl _ _)
    ·refine ⟨rfl, fun K hK => ?_⟩
     simp only [List.getElem_toArray, List.getElem_cons_zero, List.getElem_cons_succ] at hK ⊢
     go_simp
     exact hK _ _ ⟨_, rfl, heap_alloc_new wa _, hbx.2.2⟩ ((Below.refl _ wa).alloc (Nat.le_refl _) _)
   case yf4 =>
    intro hf a wa hdep
    obtain ⟨d, xa, xn, xc, e, hp⟩ := hdep 6 36 (by decide) (by kernel_rfl) rfl
    have hs : a.eval (.tmp 36) = _ := e
    have hs' := (Array.getD_eq_getD_getElem? (xs := a.tmps) (i := 36) (d := undef)).symm.trans hs
    clear hp
    refine ⟨.int .i64 (mdApp perA [(0, ([99, 110], [[65]]))]).2, .inl ⟨rfl, fun w' _ => ?_⟩, rfl⟩
    simp only [List.getElem_toArray, List.getElem_cons_zero, List.getElem_cons_succ]
    go_simp
   case rest4 =>
    intro fuel a wa hbw ha hG
    have ge0 := hG 7 43 (by decide) rfl rfl
    have ge1 : a.tmps.getD 44 undef = .int .i64 (mdApp perA [(0, ([99, 110], [[65]]))]).2 := hG 8 44 (by decide) rfl rfl
    have gbx := hG 9 7 (by decide) rfl rfl
    obtain ⟨ed, ea, en, ec, hx0, _⟩ := ge0
    rw [aw21_3] at ge1
    obtain ⟨bb, hxb, hbk, hbB⟩ := gbx
    obtain ⟨x37, hx37⟩ : ∃ x, a.tmps.getD 37 undef = x := ⟨_, rfl⟩
    obtain ⟨x38, hx38⟩ : ∃ x, a.tmps.getD 38 undef = x := ⟨_, rfl⟩
    obtain ⟨x39, hx39⟩ : ∃ x, a.tmps.getD 39 undef = x := ⟨_, rfl⟩
    obtain ⟨x40, hx40⟩ : ∃ x, a.tmps.getD 40 undef = x := ⟨_, rfl⟩
    obtain ⟨x41, hx41⟩ : ∃ x, a.tmps.getD 41 undef = x := ⟨_, rfl⟩
    obtain ⟨x42, hx42⟩ : ∃ x, a.tmps.getD 42 undef = x := ⟨_, rfl⟩
    obtain ⟨x36, hx36⟩ : ∃ x, a.tmps.getD 36 undef = x := ⟨_, rfl⟩
    simp only [List.foldl_cons, List.foldl_nil, hx0, ge1, hxb, hx37, hx38, hx39, hx40, hx41, hx42, hx36, Act.put, List.setIfInBounds_toArray, List.set_cons_zero, List.set_cons_succ] at ha
    clear hx0 ge1 hxb hx37 hx38 hx39 hx40 hx41 hx42 hx36 hG
    subst ha
    have HQ := HB.out _ hbw
    obtain ⟨q0, q1⟩ := obj2s hbk
    have u0 := obj_free hbk 0
    have u1 := obj_free hbk 1
    refine wpAnyH_ready (rs := [10]) (by kernel_rfl) (by simp) ?_
    refine AllReadyH.cons (o := _) rfl (fun KR hKR => ?ca4) AllReadyH.nil
    go_simp
    refine hKR.out _ _ trivial (fun _ => ?_)
    clear hKR KR
    try simp only [List.getElem_toArray, List.getElem_cons_zero, List.getElem_cons_succ, Act.put, List.setIfInBounds_toArray, List.set_cons_zero, List.set_cons_succ]
    refine wpAnyH_ready (rs := [11]) (by kernel_rfl) (by simp) ?_
    refine AllReadyH.cons (o := _) rfl (fun KR hKR => ?cb4) AllReadyH.nil
    go_simp
    refine hKR.out _ _ trivial (fun _ => ?_)
    clear hKR KR
    try simp only [List.getElem_toArray, List.getElem_cons_zero, List.getElem_cons_succ, Act.put, List.setIfInBounds_toArray, List.set_cons_zero, List.set_cons_succ]
    refine wpAnyH_done (by kernel_rfl) ?_ _
    refine NoPanic.normal ?_
    have hbp : Below W5.heap.size W5 wa := (Below.refl _ W5).drew.trans hbw
    obtain ⟨W6, hWn⟩ : ∃ W, (wa.setCell ⟨bb, 0, none⟩ (.string ⟨ed⟩)).setCell ⟨bb, 1, none⟩ (.slice ea en ec) = W := ⟨_, rfl⟩
    have hbn : Below W5.heap.size W5 W6 := by rw [<- hWn]; exact below_e2 hbp (by have := HBB.out; omega) _ _
    rw [hWn]
    have H6 := Hy (An (H5.out.1.trans (hbn.mono (HLe.out _ H5.out.1))) (An (obj_below H5.out.2.1 hbn (obj_lt H5.out.2.1)) (paAt_below H5.out.2.2 hbn)))
    clear hbp hWn hbn hbw hbk hbB HQ q0 q1 u0 u1 HB
    go_wp2_with fail
    have HB := Hy (fun wa (hbw : Below W6.drew.heap.size W6.drew wa) => show (wa.cell? ⟨be, 0, none⟩ = some (.string ⟨#[99, 110, 61, 97]⟩) /\ wa.cell? ⟨be, 1, none⟩ = some (.slice (some ⟨pg, 0, none⟩) 3 3)) /\ (∀ L v, MdsAt wa v L -> MdsFew L -> L.length <= 8 -> Calls Tryz.prog 12 #[.pointer (some ⟨g, 0, none⟩), .agg #[.string ⟨#[99, 110, 61, 97]⟩, .slice (some ⟨pg, 0, none⟩) 3 3], v] wa (MtPost [99, 110, 61, 97] (mdApp perA L) wa)) /\ W6.heap.size <= wa.heap.size from by have h := HF.out wa (H6.out.1.trans ((Below.refl _ W6).drew.trans hbw |>.mono (HLe.out W6 H6.out.1))); exact ⟨h.1, h.2.1, ((Below.refl _ W6).drew.trans hbw).size⟩)
    refine wp_region_noPanic ?_
    refine wp_region_held_drew (S := fun _ => True) (by kernel_rfl) trivial (fun _ => ?_)
    refine reg_go (f := 8) (A := fun j => decide (j < 10)) (D := [46, 47, 48, 49, 50, 51, 45, 52, 53, 9]) (G := awG5 g pg W6.heap.size) (LIT := #[true, true, true, true, true, true, true, true, true, true, false, false]) (r := 2) (by kernel_rfl) (by kernel_rfl) (fun _ => by kernel_rfl) (fun _ => rfl) (by kernel_rfl) (fun _ => by kernel_rfl) (fun _ => by kernel_rfl) (by kernel_rfl) (fun j v w w' h _ hb => awG5_mono g pg W6.heap.size j v w w' h hb) (fun _ _ _ _ _ h => h) ?op5 ?yf5 ?rest5
    case op5 =>
     intro i hi hA a wa hbw hsame hdep
     have hlt : i < 10 := by simpa using hA
     have hbx := HB.out _ hbw
     rcases (show i = 0 \/ i = 1 \/ i = 2 \/ i = 3 \/ i = 4 \/ i = 5 \/ i = 6 \/ i = 7 \/ i = 8 \/ i = 9 by omega) with rfl | rfl | rfl | rfl | rfl | rfl | rfl | rfl | rfl | rfl
     ·have hs : a.tmps.getD 1 undef = .pointer (some ⟨g, 0, none⟩) := hsame 1 rfl
      have hs2 : a.eval (.tmp 1) = .pointer (some ⟨g, 0, none⟩) := hs
      have hs2' : a.tmps[1]?.getD undef = .pointer (some ⟨g, 0, none⟩) := (Array.getD_eq_getD_getElem? ..).symm.trans hs2
      refine ⟨rfl, fun K hK => ?_⟩
      simp only [List.getElem_toArray, List.getElem_cons_zero, List.getElem_cons_succ] at hK ⊢
      go_simp
      exact hK _ _ rfl (Below.refl _ _)
     ·have hs : a.eval (.tmp 2) = .pointer (some ⟨be, 0, none⟩) := hsame 2 rfl
      have hs' : a.tmps[2]?.getD undef = .pointer (some ⟨be, 0, none⟩) := (Array.getD_eq_getD_getElem? ..).symm.trans hs
      obtain ⟨c0, c1⟩ := hbx.1
      refine ⟨rfl, fun K hK => ?_⟩
      simp only [List.getElem_toArray, List.getElem_cons_zero, List.getElem_cons_succ] at hK ⊢
      go_simp
      exact hK _ _ rfl (Below.refl _ _)
     ·refine ⟨rfl, fun K hK => ?_⟩
      simp only [List.getElem_toArray, List.getElem_cons_zero, List.getElem_cons_succ] at hK ⊢
      go_simp
      exact hK _ _ ⟨_, rfl, txR_new wa [[65]] _⟩ ((Below.refl _ wa).alloc (Nat.le_refl _) _)
     ·obtain ⟨b18, e18, t18⟩ := hdep 2 48 (by decide) (by kernel_rfl) rfl
      have hs : a.eval (.tmp 48) = .slice (some ⟨b18, 0, none⟩) 1 1 := e18
      have hs' : a.tmps[48]?.getD undef = .slice (some ⟨b18, 0, none⟩) 1 1 := (Array.getD_eq_getD_getElem? ..).symm.trans hs
      rw [e18] at t18
      refine ⟨rfl, fun K hK => ?_⟩
      simp only [List.getElem_toArray, List.getElem_cons_zero, List.getElem_cons_succ] at hK ⊢
      go_simp
      with_reducible refine (momod_any _ _ _ _ _ _).mono ?_
      rintro en w6 ⟨rfl, hb6⟩
      go_simp
      exact hK _ _ ⟨some ⟨b18, 0, none⟩, 1, rfl, txR_below t18 hb6, .inr ⟨_, _, _, rfl⟩⟩ hb6
     ·obtain ⟨a0, c0, e0, t0, k0⟩ := hdep 3 49 (by decide) (by kernel_rfl) rfl
      have hs0 : a.eval (.tmp 49) = .agg #[.int .i64 0, .string ⟨#[122, 122]⟩, .slice a0 1 c0] := e0
      have hs0' : a.tmps[49]?.getD undef = .agg #[.int .i64 0, .string ⟨#[122, 122]⟩, .slice a0 1 c0] := (Array.getD_eq_getD_getElem? ..).symm.trans hs0
      refine ⟨rfl, fun K hK => ?_⟩
      simp only [List.getElem_toArray, List.getElem_cons_zero, List.getElem_cons_succ] at hK ⊢
      go_simp
      exact hK _ _ ⟨_, _, rfl, mdsAt_one (m := (0, ([122, 122], [[65]]))) t0 k0⟩ ((Below.refl _ wa).alloc (Nat.le_refl _) _)
     ·obtain ⟨ma, mc, em0, hm⟩ := hdep 4 50 (by decide) (by kernel_rfl) rfl
      have hs0 : a.eval (.tmp 50) = .slice ma 1 mc := em0
      have hs0' : a.tmps[50]?.getD undef = .slice ma 1 mc := (Array.getD_eq_getD_getElem? ..).symm.trans hs0
      rw [em0] at hm
      clear em0
      have hs1 : a.eval (.tmp 46) = .pointer (some ⟨g, 0, none⟩) := hdep 0 46 (by decide) (by kernel_rfl) rfl
      have hs1' : a.tmps[46]?.getD undef = .pointer (some ⟨g, 0, none⟩) := (Array.getD_eq_getD_getElem? ..).symm.trans hs1
      have hs2 : a.eval (.tmp 47) = .agg #[.string ⟨#[99, 110, 61, 97]⟩, .slice (some ⟨pg, 0, none⟩) 3 3] := hdep 1 47 (by decide) (by kernel_rfl) rfl
      have hs2' : a.tmps[47]?.getD undef = .agg #[.string ⟨#[99, 110, 61, 97]⟩, .slice (some ⟨pg, 0, none⟩) 3 3] := (Array.getD_eq_getD_getElem? ..).symm.trans hs2
      have hAp := hbx.2.1 [(0, ([122, 122], [[65]]))] (.slice ma 1 mc) hm (by unfold MdsFew; decide) (by decide)
      refine ⟨rfl, fun K hK => ?_⟩
      simp only [List.getElem_toArray, List.getElem_cons_zero, List.getElem_cons_succ] at hK ⊢
      go_simp
      with_reducible refine hAp.mono ?_
      rintro en w6 hpost
      have hne : (mdApp perA [(0, ([122, 122], [[65]]))]).2 ≠ 0 := by rw [aw21_4]; decide
      obtain rfl := hpost.1 hne
      go_simp
      exact hK _ _ ⟨#[], none, 0, 0, rfl, fun h => absurd h hne⟩ hpost.2.2
     ·obtain ⟨d, xa, xn, xc, e, hp⟩ := hdep 5 51 (by decide) (by kernel_rfl) rfl
      have hs : a.eval (.tmp 51) = _ := e
      have hs' := (Array.getD_eq_getD_getElem? (xs := a.tmps) (i := 51) (d := undef)).symm.trans hs
      have HP := Hy hp
      clear hp
      refine ⟨rfl, fun K hK => ?_⟩
      simp only [List.getElem_toArray, List.getElem_cons_zero, List.getElem_cons_succ] at hK ⊢
      go_simp
      exact hK _ _ ⟨d, xa, xn, xc, rfl, HP.out⟩ (Below.refl _ _)
     ·obtain ⟨d, xa, xn, xc, e, hp⟩ := hdep 6 45 (by decide) (by kernel_rfl) rfl
      have hs : a.eval (.tmp 45) = _ := e
      have hs' := (Array.getD_eq_getD_getElem? (xs := a.tmps) (i := 45) (d := undef)).symm.trans hs
      have HP := Hy hp
      clear hp
      refine ⟨rfl, fun K hK => ?_⟩
      simp only [List.getElem_toArray, List.getElem_cons_zero, List.getElem_cons_succ] at hK ⊢
      go_simp
      exact hK _ _ ⟨d, xa, xn, xc, rfl, HP.out⟩ (Below.refl _ _)
     ·obtain ⟨d, xa, xn, xc, e, hp⟩ := hdep 6 45 (by decide) (by kernel_rfl) rfl
      have hs : a.eval (.tmp 45) = _ := e
      have hs' := (Array.getD_eq_getD_getElem? (xs := a.tmps) (i := 45) (d := undef)).symm.trans hs
      clear hp
      refine ⟨rfl, fun K hK => ?_⟩
      simp only [List.getElem_toArray, List.getElem_cons_zero, List.getElem_cons_succ] at hK ⊢
      go_simp
      exact hK _ _ rfl (Below.refl _ _)
     ·refine ⟨rfl, fun K hK => ?_⟩
      simp only [List.getElem_toArray, List.getElem_cons_zero, List.getElem_cons_succ] at hK ⊢
      go_simp
      exact hK _ _ ⟨_, rfl, heap_alloc_new wa _, hbx.2.2⟩ ((Below.refl _ wa).alloc (Nat.le_refl _) _)
    case yf5 =>
     intro hf a wa hdep
     obtain ⟨d, xa, xn, xc, e, hp⟩ := hdep 6 45 (by decide) (by kernel_rfl) rfl
     have hs : a.eval (.tmp 45) = _ := e
     have hs' := (Array.getD_eq_getD_getElem? (xs := a.tmps) (i := 45) (d := undef)).symm.trans hs
     clear hp
     refine ⟨.int .i64 (mdApp perA [(0, ([122, 122], [[65]]))]).2, .inl ⟨rfl, fun w' _ => ?_⟩, rfl⟩
     simp only [List.getElem_toArray, List.getElem_cons_zero, List.getElem_cons_succ]
     go_simp
    case rest5 =>
     intro fuel a wa hbw ha hG
     have ge0 := hG 7 52 (by decide) rfl rfl
     have ge1 : a.tmps.getD 53 undef = .int .i64 (mdApp perA [(0, ([122, 122], [[65]]))]).2 := hG 8 53 (by decide) rfl rfl
     have gbx := hG 9 9 (by decide) rfl rfl
     obtain ⟨ed, ea, en, ec, hx0, _⟩ := ge0
     rw [aw21_4] at ge1
     obtain ⟨bb, hxb, hbk, hbB⟩ := gbx
     obtain ⟨x46, hx46⟩ : ∃ x, a.tmps.getD 46 undef = x := ⟨_, rfl⟩
     obtain ⟨x47, hx47⟩ : ∃ x, a.tmps.getD 47 undef = x := ⟨_, rfl⟩
     obtain ⟨x48, hx48⟩ : ∃ x, a.tmps.getD 48 undef = x := ⟨_, rfl⟩
     obtain ⟨x49, hx49⟩ : ∃ x, a.tmps.getD 49 undef = x := ⟨_, rfl⟩
     obtain ⟨x50, hx50⟩ : ∃ x, a.tmps.getD 50 undef = x := ⟨_, rfl⟩
     obtain ⟨x51, hx51⟩ : ∃ x, a.tmps.getD 51 undef = x := ⟨_, rfl⟩
     obtain ⟨x45, hx45⟩ : ∃ x, a.tmps.getD 45 undef = x := ⟨_, rfl⟩
     simp only [List.foldl_cons, List.foldl_nil, hx0, ge1, hxb, hx46, hx47, hx48, hx49, hx50, hx51, hx45, Act.put, List.setIfInBounds_toArray, List.set_cons_zero, List.set_cons_succ] at ha
     clear hx0 ge1 hxb hx46 hx47 hx48 hx49 hx50 hx51 hx45 hG
     subst ha
     have HQ := HB.out _ hbw
     obtain ⟨q0, q1⟩ := obj2s hbk
     have u0 := obj_free hbk 0
     have u1 := obj_free hbk 1
     refine wpAnyH_ready (rs := [10]) (by kernel_rfl) (by simp) ?_
     refine AllReadyH.cons (o := _) rfl (fun KR hKR => ?ca5) AllReadyH.nil
     go_simp
     refine hKR.out _ _ trivial (fun _ => ?_)
     clear hKR KR
     try simp only [List.getElem_toArray, List.getElem_cons_zero, List.getElem_cons_succ, Act.put, List.setIfInBounds_toArray, List.set_cons_zero, List.set_cons_succ]
     refine wpAnyH_ready (rs := [11]) (by kernel_rfl) (by simp) ?_
     refine AllReadyH.cons (o := _) rfl (fun KR hKR => ?cb5) AllReadyH.nil
     go_simp
     refine hKR.out _ _ trivial (fun _ => ?_)
     clear hKR KR
     try simp only [List.getElem_toArray, List.getElem_cons_zero, List.getElem_cons_succ, Act.put, List.setIfInBounds_toArray, List.set_cons_zero, List.set_cons_succ]
     refine wpAnyH_done (by kernel_rfl) ?_ _
     refine NoPanic.normal ?_
     have hbp : Below W6.heap.size W6 wa := (Below.refl _ W6).drew.trans hbw
     obtain ⟨W7, hWn⟩ : ∃ W, (wa.setCell ⟨bb, 0, none⟩ (.string ⟨ed⟩)).setCell ⟨bb, 1, none⟩ (.slice ea en ec) = W := ⟨_, rfl⟩
     have hbn : Below W6.heap.size W6 W7 := by rw [<- hWn]; exact below_e2 hbp (by have := HBB.out; omega) _ _
     rw [hWn]
     have H7 := Hy (An (H6.out.1.trans (hbn.mono (HLe.out _ H6.out.1))) (An (obj_below H6.out.2.1 hbn (obj_lt H6.out.2.1)) (paAt_below H6.out.2.2 hbn)))
     clear hbp hWn hbn hbw hbk hbB HQ q0 q1 u0 u1 HB
     obtain ⟨e0, e1⟩ := (HF.out W7 H7.out.1).1
     go_wp2_with fail
     with_reducible refine (monil_any _ _ _ _ _).mono ?_
     rintro en w9 ⟨rfl, hb9⟩
     clear e0 e1
     have hB9 := H7.out.1.trans (hb9.mono (HLe.out _ H7.out.1))
     have x9 := obj_below H7.out.2.1 hb9 (obj_lt H7.out.2.1)
     have hpa9 := paAt_below H7.out.2.2 hb9
     have hF9 := HF.out w9 hB9
     obtain ⟨W10, hW10⟩ : ∃ W, w9.alloc (.cells #[.string ⟨#[]⟩, .slice none 0 0] 24) = W := ⟨_, rfl⟩
     have hb10 : Below w9.heap.size w9 W10 := by rw [<- hW10]; exact (Below.refl _ w9).alloc (Nat.le_refl _) _
     have hB10 := hB9.trans (hb10.mono (HLe.out _ hB9))
     have x10 := obj_below x9 hb10 (obj_lt x9)
     have hpa10 := paAt_below hpa9 hb10
     obtain ⟨e0, e1⟩ := (HF.out W10 hB10).1
     obtain ⟨k0, k1⟩ := obj2s x10
     rw [<- hW10] at e0 e1 k0 k1
     have H10 := Hy (An hB10 (An x10 hpa10))
     have HW10 := Hy hW10
     clear hb9 hB9 x9 hpa9 hF9 hW10 hb10 hB10 x10 hpa10
     go_wp2_with fail
     rw [HW10.out]
     with_reducible refine (HN1.out W10 H10.out.1).mono ?_
     rintro en w11 ⟨rfl, hb11⟩
     have hB11 := H10.out.1.trans (hb11.mono (HLe.out _ H10.out.1))
     have x11 := obj_below H10.out.2.1 hb11 (obj_lt H10.out.2.1)
     have hpa11 := paAt_below H10.out.2.2 hb11
     clear e0 e1 k0 k1
     obtain ⟨k0, k1⟩ := obj2s x11
     have HN2' := Hy (HN2.out w11 hB11 _ (paAt_ea hpa11))
     have H11 := Hy hB11
     clear hb11 hB11 x11 hpa11
     go_wp2_with fail
     with_reducible refine HN2'.out.mono ?_
     rintro en w12 ⟨rfl, hb12⟩
     have HZ := Hy (HW3.out.2.trans ((H11.out.trans (hb12.mono (HLe.out _ H11.out))).mono (by rw [<- HBB.out]; exact HW3.out.2.size)))
     clear hb12 k0 k1
     go_wp2
     go_ret
     exact bB_mk rfl HZ.out
end Go.Proofs.YtpkbgkoocijegaaGreatDoor
