/- strconv.ParseUint of two digits, and what stands behind a backslash, for every text. What stands behind a backslash, and a value's text read, for every text. -/
import Derived.Test.YtpkbgkoocijegaaGreatDoorDqE
import Derived.Test.YtpkbgkoocijegaaGreatDoorFoldAE
import Derived.Lib.UnsafeStr
import Derived.Lib.BufferWrite
import Derived.Lib.AtoiErrMem
import Derived.Lib.IfaceEq
import Derived.Lib.IfaceNeq
import Derived.Laws.MakeOwn
import Derived.Deep.RegionWith
import Derived.RegionTactic
import Derived.Deep.RegionHeld3
import Derived.Test.YtpkbgkoocijegaaGreatDoorDqB
set_option linter.unusedVariables false
set_option linter.unusedSimpArgs false
set_option maxHeartbeats 25600000
set_option maxRecDepth 100000
namespace Go.Proofs.YtpkbgkoocijegaaGreatDoor
open Go Go.RowKit Go.Proofs.BerK Go.Proofs.MemK Go.Proofs.UtfK
theorem clone_any (s : ByteArray) (w : World) (hlim : s.size <= 140737488355328) : Calls Tryz.prog 289 #[.string s] w fun e w' => e = .returned (.string s) /\ Below w.heap.size w w' := by
 by_cases h0 : s.size = 0
 ·have hs : s = ⟨#[]⟩ := by
   apply ByteArray.ext
   exact Array.eq_empty_of_size_eq_zero h0
  subst hs
  go_enter Tryz.func289, Tryz.ntmps289
  go_wp2
  go_ret
  exact ⟨rfl, Below.refl _ _⟩
 ·obtain ⟨i0, hi, hz0, hz1, hz2⟩ := info_parts Tryz.info5
  have hinfo : (Tryz.prog.info? 5).map (·.size) = some 1 := by rw [hi]; simp [hz1]
  have hco : Tryz.prog.cellsOf 5 = 1 := by simp [Program.cellsOf, hi, hz1]
  obtain ⟨M, hM⟩ : ∃ M, M = madeCells (Value.int .u8 0).cells (((s.size : Nat) : Int).toNat * i0.size) := ⟨_, rfl⟩
  have hMs : M.size = s.size := by rw [hM, size_madeCells, hz1]; simp
  have hmk : ∀ W : World, (Instr.makeSlice 188 (.int .i64 (s.size : Int)) (.int .i64 (s.size : Int))).run Tryz.prog W = .ok (.slice (some ⟨W.heap.size, 0, none⟩) s.size s.size) (W.alloc (.cells M 5)) := fun W => by
   have h := run_make (P := Tryz.prog) W 188 5 i0 (.int .u8 0) Tryz.underlying188 hi hz0 .i64 .i64 (s.size : Int) (s.size : Int) (by omega) (by omega) (by rw [hz2]; omega) (by omega)
   rw [<- hM] at h
   simpa using h
  clear hM
  have hcp := Lib.run_copy_row_string (P := Tryz.prog) (w.alloc (.cells M 5)) 188 9 3 5 w.heap.size 0 s.size s.size s M 5 Tryz.underlying188 hinfo (heap_alloc_new w _) (Nat.le_refl _) (by omega)
  obtain ⟨Y, hY⟩ : ∃ Y, Y = (M.toList.take 0 ++ Lib.byteCells s.data.toList ++ M.toList.drop (0 + s.size)).toArray := ⟨_, rfl⟩
  rw [<- hY] at hcp
  have hYl : Y.toList = Lib.byteCells s.data.toList := by
   rw [hY, List.toList_toArray, List.take_zero, List.nil_append, List.drop_of_length_le (by rw [Array.length_toList]; omega), List.append_nil]
  have hYs : Y.size = s.size := by rw [<- Array.length_toList, hYl, Lib.byteCells_length, <- Lib.size_eq]
  have hgY : ((w.alloc (.cells M 5)).setRow w.heap.size Y).heap[w.heap.size]? = some (.cells Y 5 (0, 0)) := setRow_heap _ _ M _ 5 (0, 0) (heap_alloc_new w _)
  have hne : s.data.toList ≠ [] := fun e => h0 (by rw [Lib.size_eq, e]; rfl)
  have hUS := Lib.run_unsafeString_row (P := Tryz.prog) ((w.alloc (.cells M 5)).setRow w.heap.size Y) 323 3 9 5 (by kernel_rfl) hco w.heap.size Y.size (by unfold World.shape?; rw [hgY]) s.data.toList hne (by rw [<- Lib.size_eq]; omega) (by rw [<- Lib.size_eq]; omega)
   (fun j x hx => Lib.cells_of_row hgY Y.size j _ (by rw [List.take_of_length_le (by rw [Array.length_toList]; exact Nat.le_refl _), hYl]; simp [Lib.byteCells, hx]))
  rw [<- Lib.size_eq] at hUS
  clear hY
  go_enter Tryz.func289, Tryz.ntmps289
  go_wp2
  go_ret
  have hb1 : Below w.heap.size w (w.alloc (.cells M 5)) := (Below.refl _ w).alloc (Nat.le_refl _) _
  have hb2 : Below w.heap.size (w.alloc (.cells M 5)) ((w.alloc (.cells M 5)).setRow w.heap.size Y) := ⟨rfl, rfl, rfl, by simp, fun k hk => setRow_other _ _ _ _ (by omega)⟩
  exact ⟨rfl, Lib.below_freeze (hb1.trans hb2) (p := ⟨w.heap.size, 0, none⟩) (Nat.le_refl _) _⟩
def ErrOk (w : World) : Prop := ∃ ev, w.cell? ⟨3, 0, none⟩ = some ev /\ (ev = .nilIface \/ ∃ te pe, ev = .iface te pe)
theorem errOk_below {w w' : World} (h : ErrOk w) (hb : Below w.heap.size w w') : ErrOk w' := by
 obtain ⟨ev, hv, he⟩ := h
 exact ⟨ev, (hb.cell (p := ⟨3, 0, none⟩) (Lib.lt_of_cell hv)).trans hv, he⟩
theorem errOk_low {w w' : World} {B : Nat} (h : ErrOk w) (hb : Below B w w') (hB : 3 < B) : ErrOk w' := by
 obtain ⟨ev, hv, he⟩ := h
 exact ⟨ev, (hb.cell (p := ⟨3, 0, none⟩) hB).trans hv, he⟩
theorem synerr_any (fn s : ByteArray) (hlim : s.size <= 140737488355328) (w : World) (h : ErrOk w) :
  Calls Tryz.prog 284 #[.string fn, .string s] w fun e w' => (∃ N, e = .returned (.pointer (some ⟨N, 0, none⟩))) /\ Below w.heap.size w w' := by
 obtain ⟨ev, hv, hev⟩ := h
 have HC := Hy (fun w => clone_any s w hlim)
 have hG : 3 < w.heap.size := Lib.lt_of_cell hv
 rcases hev with rfl | ⟨te, pe, rfl⟩
 ·go_enter Tryz.func284, Tryz.ntmps284
  go_wp2
  go_region_held3 (fun w' => w'.cell? ⟨3, 0, none⟩ = some (.nilIface)) (first | exact he0 | exact hv | go_keep)
   (first | (go_at_call 289; refine (HC.out _).mono ?_; rintro en w5 ⟨rfl, hb5⟩; have hbV : Below w.heap.size w w5 := (Below.refl _ w).drew.trans hb5; have he0 := (hbV.cell (p := ⟨3, 0, none⟩) hG).trans hv))
  go_wp2
  go_ret
  exact ⟨⟨_, rfl⟩, hbV.alloc hbV.size _⟩
 ·go_enter Tryz.func284, Tryz.ntmps284
  go_wp2
  go_region_held3 (fun w' => w'.cell? ⟨3, 0, none⟩ = some (.iface te pe)) (first | exact he0 | exact hv | go_keep)
   (first | (go_at_call 289; refine (HC.out _).mono ?_; rintro en w5 ⟨rfl, hb5⟩; have hbV : Below w.heap.size w w5 := (Below.refl _ w).drew.trans hb5; have he0 := (hbV.cell (p := ⟨3, 0, none⟩) hG).trans hv))
  go_wp2
  go_ret
  exact ⟨⟨_, rfl⟩, hbV.alloc hbV.size _⟩
theorem toerr_any (fn s : ByteArray) (a b : Int) (hlim : s.size <= 140737488355328) (w : World) (h : ErrOk w) :
  Calls Tryz.prog 275 #[.string fn, .string s, .int .i64 a, .int .i64 b, .iface 313 (.int .i64 2)] w fun e w' => (∃ N, e = .returned (.iface 315 (.pointer (some ⟨N, 0, none⟩)))) /\ Below w.heap.size w w' := by
 have HC := Hy (synerr_any fn s hlim w h)
 have heq : ∀ W, (binOp .eql 290 (.iface 313 (.int .i64 2)) (.iface 313 (.int .i64 2))).run Tryz.prog W = .ok (.bool true) W := fun W => Lib.run_eql_iface_int W 2 2 Tryz.underlying290 (by kernel_rfl) Tryz.underlying313
 go_enter Tryz.func275, Tryz.ntmps275
 go_wp2_with fail
 refine HC.out.mono ?_
 rintro e w1 ⟨⟨N, rfl⟩, hb⟩
 go_wp2
 go_ret
 exact ⟨⟨N, rfl⟩, hb⟩
theorem or_32 : ∀ c : Fin 256, bits BinOp.or IntKind.u8 ((c.val : Nat) : Int) 32 = ((c.val ||| 32 : Nat) : Int) := by decide +kernel
theorem plow_any (c : Nat) (h : c < 256) (w : World) : Calls Tryz.prog 282 #[.int .u8 (c : Nat)] w fun e w' => e = .returned (.int .u8 ((c ||| 32 : Nat) : Int)) /\ w' = w := by
 have ho := or_32 ⟨c, h⟩
 simp only [] at ho
 go_enter Tryz.func282, Tryz.ntmps282
 go_wp2
 go_ret
 exact ⟨rfl, rfl⟩
theorem pw_ways : ∀ c : Fin 256, (48 <= c.val /\ c.val <= 57 /\ hxN c.val + 48 = c.val) \/ ((c.val < 48 \/ 57 < c.val) /\ 97 <= (c.val ||| 32) /\ (c.val ||| 32) <= 102 /\ hxN c.val + 87 = (c.val ||| 32)) \/
  ((c.val < 48 \/ 57 < c.val) /\ 103 <= (c.val ||| 32) /\ (c.val ||| 32) <= 122 /\ hxN c.val = 16) \/ ((c.val < 48 \/ 57 < c.val) /\ (c.val ||| 32) < 97 /\ hxN c.val = 16) \/ ((c.val < 48 \/ 57 < c.val) /\ 122 < (c.val ||| 32) /\ hxN c.val = 16) := by decide +kernel
theorem or_lt : ∀ c : Fin 256, (c.val ||| 32) < 256 := by decide +kernel
def pvN (a b k : Nat) : Nat := if k = 0 then 0 else if k = 1 then hxN a else 16 * hxN a + hxN b
theorem pvN_1 (a b : Nat) : pvN a b 1 = hxN a := rfl
theorem pvN_2 (a b : Nat) : pvN a b 2 = 16 * hxN a + hxN b := rfl
def PuVal (a b : Nat) : Value := if hxN a < 16 /\ hxN b < 16 then .tuple #[.int .u64 ((16 * hxN a + hxN b : Nat) : Int), .nilIface] else .tuple #[.int .u64 0, .iface 313 (.int .i64 2)]
theorem puVal_ok {a b : Nat} (h1 : hxN a < 16) (h2 : hxN b < 16) : PuVal a b = .tuple #[.int .u64 ((16 * hxN a + hxN b : Nat) : Int), .nilIface] := by rw [PuVal, if_pos ⟨h1, h2⟩]
theorem puVal_no {a b : Nat} (h : ¬ (hxN a < 16 /\ hxN b < 16)) : PuVal a b = .tuple #[.int .u64 0, .iface 313 (.int .i64 2)] := by rw [PuVal, if_neg h]
theorem ipu_any (s : ByteArray) (hs : s.size = 2) (w : World) :
  Calls Tryz.prog 274 #[.string s, .int .i64 16, .int .i64 8] w fun e w' => e = .returned (PuVal (s[0]'(by omega)).toNat (s[1]'(by omega)).toNat) /\ Below w.heap.size w w' := by
 have hem := str_ne s (by omega)
 have hcv := run_bytes_of_string (P := Tryz.prog) w 9 188 5 s Tryz.underlying9 Tryz.underlying188 Tryz.underlying5
 have hR := brow_new w w.drew s 5 rfl
 have hB0 : Below w.heap.size w (w.drew.alloc (brow w s 5)) := (Below.refl _ w).drew.alloc (Nat.le_refl _) _
 change (convert 9 188 (.string s)).run Tryz.prog w = .ok _ (w.drew.alloc (brow w s 5)) at hcv
 obtain ⟨W0, hW0⟩ : ∃ W0, w.drew.alloc (brow w s 5) = W0 := ⟨_, rfl⟩
 obtain ⟨cap, hcap⟩ : ∃ c, grownCap w s.size 0 5 = c := ⟨_, rfl⟩
 rw [hW0, hcap, hs] at hcv
 rw [hW0] at hR hB0
 clear hW0 hcap
 have HB := Hy hB0
 have hl := len_list s
 have c0 := hR.2.1 0 (by omega)
 have c1 := hR.2.1 1 (by omega)
 rw [at_list s 0 (by omega)] at c0
 rw [at_list s 1 (by omega)] at c1
 have x8 := (s[0]'(by omega)).toNat_lt
 have y8 := (s[1]'(by omega)).toNat_lt
 obtain ⟨x, hx⟩ : ∃ x, (s[0]'(by omega)).toNat = x := ⟨_, rfl⟩
 obtain ⟨y, hy⟩ : ∃ y, (s[1]'(by omega)).toNat = y := ⟨_, rfl⟩
 rw [hx] at c0 x8 ⊢
 rw [hy] at c1 y8 ⊢
 clear hR hB0 hl hx hy
 go_enter Tryz.func274, Tryz.ntmps274
 go_wp2
 go_loop [12, 13, 101] (fun u n v => ∃ (k : Nat) (z : Int), k <= 2 /\ v = .int .i64 (k : Nat) /\ n = .int .u64 z /\ u = .bool false /\ Hid (z = (pvN x y k : Nat)) /\ (0 < k -> hxN x < 16) /\ (1 < k -> hxN y < 16)) (fun _ _ v => 2 - (intOf v).toNat)
 case atStart => exact ⟨0, 0, by omega, rfl, rfl, rfl, Hy rfl, by omega, by omega⟩
 case round =>
  obtain ⟨k, z, hk, rfl, rfl, rfl, hz, hh0, hh1⟩ := hrel
  have hway : k = 0 \/ k = 1 \/ k = 2 := by omega
  rcases hway with rfl | rfl | rfl
  ·obtain rfl : z = 0 := hz.out
   clear hz
   have HL := Hy (plow_any x x8)
   have hlt := or_lt ⟨x, x8⟩
   have hw := pw_ways ⟨x, x8⟩
   simp only [] at hw hlt
   obtain ⟨L, hL⟩ : ∃ L, x ||| 32 = L := ⟨_, rfl⟩
   obtain ⟨d, hd⟩ : ∃ d, hxN x = d := ⟨_, rfl⟩
   have h95 : x = 95 -> L = 127 := fun h => by rw [h] at hL; exact hL.symm
   rw [hL] at HL hw hlt
   rw [hd] at hw
   rcases hw with ⟨q1, q2, q3⟩ | ⟨q0, q1, q2, q3⟩ | ⟨q0, q1, q2, q3⟩ | ⟨q0, q1, q3⟩ | ⟨q0, q1, q3⟩
   ·have H := Hy (An hd q3)
    have r1 : (48 : Int) <= (x : Int) := by omega
    have r2 : (x : Int) <= 57 := by omega
    clear hh0 hh1 hd q3 q1 q2 hL h95
    go_wp2
    ·refine ⟨⟨1, _, by omega, by go_num, rfl, rfl, ?_, fun _ => ?_, fun h => by omega⟩, by simp [intOf]⟩
     ·have h1 := H.out.1; have h2 := H.out.2
      refine Hy ?_
      rw [pvN_1]
      omega
     ·have h1 := H.out.1; have h2 := H.out.2; omega
   ·have H := Hy (An hd q3)
    have r3 : (97 : Int) <= (L : Int) := by omega
    have r4 : (L : Int) <= 122 := by omega
    have r5 : (L : Int) <= 102 := by omega
    have r0 : (x : Int) < 48 \/ (48 : Int) <= (x : Int) /\ (57 : Int) < (x : Int) := by omega
    have r9 : ((x : Int) == 95) = false := by rw [beq_eq_false_iff_ne]; intro hh; have := h95 (by omega); omega
    clear h95
    clear hh0 hh1 hd q3 q1 q2 hL q0
    rcases r0 with r0 | ⟨r0, r1⟩
    all_goals
     go_wp2_with (go_at_call 282; refine (HL.out _).mono ?_; rintro e w' ⟨rfl, rfl⟩)
     refine ⟨⟨1, _, by omega, by go_num, rfl, rfl, ?_, fun _ => ?_, fun h => by omega⟩, by simp [intOf]⟩
     ·have h1 := H.out.1; have h2 := H.out.2
      refine Hy ?_
      rw [pvN_1]
      omega
     ·have h1 := H.out.1; have h2 := H.out.2; omega
   ·have H := Hy (An hd q3)
    have r3 : (97 : Int) <= (L : Int) := by omega
    have r4 : (L : Int) <= 122 := by omega
    have r5 : (103 : Int) <= (L : Int) := by omega
    have r0 : (x : Int) < 48 \/ (48 : Int) <= (x : Int) /\ (57 : Int) < (x : Int) := by omega
    have r9 : ((x : Int) == 95) = false := by rw [beq_eq_false_iff_ne]; intro hh; have := h95 (by omega); omega
    clear h95
    clear hh0 hh1 hd q3 q1 q2 hL q0
    rcases r0 with r0 | ⟨r0, r1⟩
    all_goals
     go_wp2_with (go_at_call 282; refine (HL.out _).mono ?_; rintro e w' ⟨rfl, rfl⟩)
     go_ret2
     exact ⟨by rw [puVal_no (fun hh => by have h1 := H.out.1; have h2 := H.out.2; omega)]; rfl, HB.out⟩
   ·have H := Hy (An hd q3)
    have r3 : (L : Int) < 97 := by omega
    have r0 : (x : Int) < 48 \/ (48 : Int) <= (x : Int) /\ (57 : Int) < (x : Int) := by omega
    have r9 : ((x : Int) == 95) = false := by rw [beq_eq_false_iff_ne]; intro hh; have := h95 (by omega); omega
    clear h95
    clear hh0 hh1 hd q3 q1 hL q0
    rcases r0 with r0 | ⟨r0, r1⟩
    all_goals
     go_wp2_with (go_at_call 282; refine (HL.out _).mono ?_; rintro e w' ⟨rfl, rfl⟩)
     go_ret2
     exact ⟨by rw [puVal_no (fun hh => by have h1 := H.out.1; have h2 := H.out.2; omega)]; rfl, HB.out⟩
   ·have H := Hy (An hd q3)
    have r3 : (97 : Int) <= (L : Int) := by omega
    have r4 : (122 : Int) < (L : Int) := by omega
    have r0 : (x : Int) < 48 \/ (48 : Int) <= (x : Int) /\ (57 : Int) < (x : Int) := by omega
    clear h95
    clear hh0 hh1 hd q3 q1 hL q0
    obtain ⟨u9, r9⟩ : ∃ u, ((x : Int) == 95) = u := ⟨_, rfl⟩
    rcases r0 with r0 | ⟨r0, r1⟩ <;> cases u9
    all_goals
     go_wp2_with (go_at_call 282; refine (HL.out _).mono ?_; rintro e w' ⟨rfl, rfl⟩)
     go_ret2
     exact ⟨by rw [puVal_no (fun hh => by have h1 := H.out.1; have h2 := H.out.2; omega)]; rfl, HB.out⟩
  ·have HA := Hy (show z = (hxN x : Nat) from hz.out)
   have HA16 := Hy (hh0 (by omega))
   have hz0 : (0 : Int) <= z := by have := HA.out; omega
   have hz1 : z <= 15 := by have := HA.out; have := HA16.out; omega
   clear hz
   have HL := Hy (plow_any y y8)
   have hlt := or_lt ⟨y, y8⟩
   have hw := pw_ways ⟨y, y8⟩
   simp only [] at hw hlt
   obtain ⟨L, hL⟩ : ∃ L, y ||| 32 = L := ⟨_, rfl⟩
   obtain ⟨d, hd⟩ : ∃ d, hxN y = d := ⟨_, rfl⟩
   have h95 : y = 95 -> L = 127 := fun h => by rw [h] at hL; exact hL.symm
   rw [hL] at HL hw hlt
   rw [hd] at hw
   rcases hw with ⟨q1, q2, q3⟩ | ⟨q0, q1, q2, q3⟩ | ⟨q0, q1, q2, q3⟩ | ⟨q0, q1, q3⟩ | ⟨q0, q1, q3⟩
   ·have H := Hy (An hd q3)
    have r1 : (48 : Int) <= (y : Int) := by omega
    have r2 : (y : Int) <= 57 := by omega
    clear hh0 hh1 hd q3 q1 q2 hL h95
    go_wp2
    ·refine ⟨⟨2, _, by omega, by go_num, rfl, rfl, ?_, fun _ => HA16.out, fun _ => ?_⟩, by simp [intOf]⟩
     ·have h1 := H.out.1; have h2 := H.out.2; have h3 := HA.out
      refine Hy ?_
      rw [pvN_2]
      omega
     ·have h1 := H.out.1; have h2 := H.out.2; omega
   ·have H := Hy (An hd q3)
    have r3 : (97 : Int) <= (L : Int) := by omega
    have r4 : (L : Int) <= 122 := by omega
    have r5 : (L : Int) <= 102 := by omega
    have r0 : (y : Int) < 48 \/ (48 : Int) <= (y : Int) /\ (57 : Int) < (y : Int) := by omega
    have r9 : ((y : Int) == 95) = false := by rw [beq_eq_false_iff_ne]; intro hh; have := h95 (by omega); omega
    clear h95
    clear hh0 hh1 hd q3 q1 q2 hL q0
    rcases r0 with r0 | ⟨r0, r1⟩
    all_goals
     go_wp2_with (go_at_call 282; refine (HL.out _).mono ?_; rintro e w' ⟨rfl, rfl⟩)
     refine ⟨⟨2, _, by omega, by go_num, rfl, rfl, ?_, fun _ => HA16.out, fun _ => ?_⟩, by simp [intOf]⟩
     ·have h1 := H.out.1; have h2 := H.out.2; have h3 := HA.out
      refine Hy ?_
      rw [pvN_2]
      omega
     ·have h1 := H.out.1; have h2 := H.out.2; omega
   ·have H := Hy (An hd q3)
    have r3 : (97 : Int) <= (L : Int) := by omega
    have r4 : (L : Int) <= 122 := by omega
    have r5 : (103 : Int) <= (L : Int) := by omega
    have r0 : (y : Int) < 48 \/ (48 : Int) <= (y : Int) /\ (57 : Int) < (y : Int) := by omega
    have r9 : ((y : Int) == 95) = false := by rw [beq_eq_false_iff_ne]; intro hh; have := h95 (by omega); omega
    clear h95
    clear hh0 hh1 hd q3 q1 q2 hL q0
    rcases r0 with r0 | ⟨r0, r1⟩
    all_goals
     go_wp2_with (go_at_call 282; refine (HL.out _).mono ?_; rintro e w' ⟨rfl, rfl⟩)
     go_ret2
     exact ⟨by rw [puVal_no (fun hh => by have h1 := H.out.1; have h2 := H.out.2; omega)]; rfl, HB.out⟩
   ·have H := Hy (An hd q3)
    have r3 : (L : Int) < 97 := by omega
    have r0 : (y : Int) < 48 \/ (48 : Int) <= (y : Int) /\ (57 : Int) < (y : Int) := by omega
    have r9 : ((y : Int) == 95) = false := by rw [beq_eq_false_iff_ne]; intro hh; have := h95 (by omega); omega
    clear h95
    clear hh0 hh1 hd q3 q1 hL q0
    rcases r0 with r0 | ⟨r0, r1⟩
    all_goals
     go_wp2_with (go_at_call 282; refine (HL.out _).mono ?_; rintro e w' ⟨rfl, rfl⟩)
     go_ret2
     exact ⟨by rw [puVal_no (fun hh => by have h1 := H.out.1; have h2 := H.out.2; omega)]; rfl, HB.out⟩
   ·have H := Hy (An hd q3)
    have r3 : (97 : Int) <= (L : Int) := by omega
    have r4 : (122 : Int) < (L : Int) := by omega
    have r0 : (y : Int) < 48 \/ (48 : Int) <= (y : Int) /\ (57 : Int) < (y : Int) := by omega
    clear h95
    clear hh0 hh1 hd q3 q1 hL q0
    obtain ⟨u9, r9⟩ : ∃ u, ((y : Int) == 95) = u := ⟨_, rfl⟩
    rcases r0 with r0 | ⟨r0, r1⟩ <;> cases u9
    all_goals
     go_wp2_with (go_at_call 282; refine (HL.out _).mono ?_; rintro e w' ⟨rfl, rfl⟩)
     go_ret2
     exact ⟨by rw [puVal_no (fun hh => by have h1 := H.out.1; have h2 := H.out.2; omega)]; rfl, HB.out⟩
  ·have H := Hy (An (puVal_ok (hh0 (by omega)) (hh1 (by omega))) (show z = ((16 * hxN x + hxN y : Nat) : Int) from hz.out))
   clear hh0 hh1 hz
   go_wp2
   go_ret2
   exact ⟨by rw [H.out.1, <- H.out.2]; rfl, HB.out⟩
theorem pu_ok (s : ByteArray) (hs : s.size = 2) (h1 : hxN (s[0]'(by omega)).toNat < 16) (h2 : hxN (s[1]'(by omega)).toNat < 16) (w : World) :
  Calls Tryz.prog 256 #[.string s, .int .i64 16, .int .i64 8] w fun e w' => e = .returned (.tuple #[.int .u64 ((16 * hxN (s[0]'(by omega)).toNat + hxN (s[1]'(by omega)).toNat : Nat) : Int), .nilIface]) /\ Below w.heap.size w w' := by
 have HC := Hy (ipu_any s hs w)
 rw [puVal_ok h1 h2] at HC
 obtain ⟨n, hn⟩ : ∃ n : Int, ((16 * hxN (s[0]'(by omega)).toNat + hxN (s[1]'(by omega)).toNat : Nat) : Int) = n := ⟨_, rfl⟩
 rw [hn] at HC ⊢
 clear hn h1 h2
 go_enter Tryz.func256, Tryz.ntmps256
 go_wp2_with fail
 refine HC.out.mono ?_
 rintro e w1 ⟨rfl, hb⟩
 go_wp2
 go_ret2
 exact ⟨rfl, hb⟩
theorem pu_no (s : ByteArray) (hs : s.size = 2) (h : ¬ (hxN (s[0]'(by omega)).toNat < 16 /\ hxN (s[1]'(by omega)).toNat < 16)) (w : World) (he : ErrOk w) :
  Calls Tryz.prog 256 #[.string s, .int .i64 16, .int .i64 8] w fun e w' => (∃ N, e = .returned (.tuple #[.int .u64 0, .iface 315 (.pointer (some ⟨N, 0, none⟩))])) /\ Below w.heap.size w w' := by
 have HC := Hy (ipu_any s hs w)
 rw [puVal_no h] at HC
 have HT := Hy (fun w' (hb : Below w.heap.size w w') => toerr_any ⟨#[80, 97, 114, 115, 101, 85, 105, 110, 116]⟩ s 16 8 (by omega) w' (errOk_below he hb))
 clear h he
 go_enter Tryz.func256, Tryz.ntmps256
 go_wp2_with fail
 refine HC.out.mono ?_
 rintro e w1 ⟨rfl, hb⟩
 have HT1 := Hy (HT.out w1 hb)
 have HB := Hy hb
 clear hb
 go_wp2_with fail
 refine HT1.out.mono ?_
 rintro e w2 ⟨⟨N, rfl⟩, hb2⟩
 go_wp2
 go_ret2
 exact ⟨⟨N, rfl⟩, HB.out.trans (hb2.mono HB.out.size)⟩
def RmV : Option (UInt8 × Nat) -> Value
 | none => .tuple #[.int .u8 0, .int .i64 0]
 | some (c, n) => .tuple #[.int .u8 (c.toNat : Nat), .int .i64 (n : Nat)]
def RmPost (o : Option (UInt8 × Nat)) (w : World) (en : Ending) (w' : World) : Prop := en = .returned (RmV o) /\ Below w.heap.size w w'
theorem list_two (s : ByteArray) (h : 2 <= s.size) : s.data.toList = s[0] :: s[1] :: s.data.toList.drop 2 := by
 have hl := len_list s
 have h0 := drop_at s.data.toList 0 (by omega)
 have h1 := drop_at s.data.toList 1 (by omega)
 rw [List.drop_zero, at_list s 0 (by omega)] at h0
 rw [at_list s 1 (by omega)] at h1
 rw [h1] at h0
 exact h0
theorem ext_two (s : ByteArray) (h : 2 <= s.size) : s.extract 0 2 = ⟨#[s[0], s[1]]⟩ := by
 have h1 : (s.extract 0 2).data.toList = [s[0], s[1]] := by
  rw [Lib.extract_data, List.drop_zero, list_two s h]; rfl
 rw [<- mk_list (s.extract 0 2), h1]
theorem dmarked_any (s : ByteArray) (w : World) (he : ErrOk w) :
  Calls Tryz.prog 235 #[.string s] w (RmPost (rmL s.data.toList) w) := by
 by_cases h0 : s.size = 0
 ·have hem := str_e s h0
  have hn : s.data.toList = [] := List.eq_nil_of_length_eq_zero (by rw [len_list]; exact h0)
  have H := Hy (show rmL s.data.toList = none by rw [hn]; rfl)
  clear hn h0 he
  go_enter Tryz.func235, Tryz.ntmps235
  go_wp2
  go_ret2
  exact ⟨by rw [H.out]; rfl, Below.refl _ _⟩
 have hem := str_ne s (by omega)
 have hp : 0 < s.size := by omega
 have hpi : (0 : Int) < (s.size : Int) := by omega
 have hcut := list_cut s hp
 have hb : s[0].toNat < 256 := s[0].toNat_lt
 have HM := Hy (idx_mayN s[0].toNat hb)
 have HI := Hy (sidx_any ⟨#[44, 43, 34, 92, 60, 62, 59, 61, 32, 35]⟩ (s[0].toNat : Nat))
 change Hid (∀ w, Calls Tryz.prog _ _ w (PureI (Lib.indexByte [44, 43, 34, 92, 60, 62, 59, 61, 32, 35] (UInt8.ofNat s[0].toNat)) w)) at HI
 obtain ⟨ix, hix⟩ : ∃ ix, Lib.indexByte [44, 43, 34, 92, 60, 62, 59, 61, 32, 35] (UInt8.ofNat s[0].toNat) = ix := ⟨_, rfl⟩
 rw [hix] at HM HI
 clear hix
 by_cases hm : mayN s[0].toNat = true
 ·have hix : (0 : Int) <= ix := by have := HM.out; rw [hm] at this; simpa using this
  have H := Hy (show rmL s.data.toList = some (s[0], 1) by rw [hcut, rmL_may _ _ hm])
  obtain ⟨x, hx⟩ : ∃ x, s[0] = x := ⟨_, rfl⟩
  rw [hx] at H HI hb
  clear hm hcut h0 he HM
  go_enter Tryz.func235, Tryz.ntmps235
  go_wp2_with fail
  refine (HI.out _).mono ?_
  rintro e w1 ⟨rfl, hw⟩
  obtain rfl := hw.symm
  go_wp2
  go_ret2
  exact ⟨by rw [H.out]; rfl, Below.refl _ _⟩
 have hix : ix < 0 := by have := HM.out; simp only [Bool.not_eq_true] at hm; rw [hm] at this; simpa using this
 by_cases h2 : s.size < 2
 ·have hnil : (s.extract 1 s.size).data.toList = [] := by rw [Lib.extract_to_end, List.drop_of_length_le (by rw [len_list]; omega)]
  have H := Hy (show rmL s.data.toList = none by rw [hcut, hnil, rmL_one _ hm])
  have h2i : (s.size : Int) < 2 := by omega
  obtain ⟨x, hx⟩ : ∃ x, s[0] = x := ⟨_, rfl⟩
  rw [hx] at HI hb
  clear hm hcut h0 he HM h2 hnil
  go_enter Tryz.func235, Tryz.ntmps235
  go_wp2_with fail
  refine (HI.out _).mono ?_
  rintro e w1 ⟨rfl, hw⟩
  obtain rfl := hw.symm
  go_wp2
  go_ret2
  exact ⟨by rw [H.out]; rfl, Below.refl _ _⟩
 ·have h2i : (2 : Int) <= (s.size : Int) := by omega
  have hl2 := list_two s (by omega)
  have hx2 := ext_two s (by omega)
  have hy8 : s[1].toNat < 256 := s[1].toNat_lt
  obtain ⟨x, hx⟩ : ∃ x, s[0] = x := ⟨_, rfl⟩
  obtain ⟨y, hy⟩ : ∃ y, s[1] = y := ⟨_, rfl⟩
  rw [hx, hy] at hl2 hx2
  rw [hx] at hm hb HI
  rw [hy] at hy8
  by_cases hh : hxN x.toNat < 16 /\ hxN y.toNat < 16
  ·have H := Hy (show rmL s.data.toList = some (UInt8.ofNat (16 * hxN x.toNat + hxN y.toNat), 2) by rw [hl2, rmL_two _ _ _ hm, if_pos hh])
   have HP := Hy (fun w => pu_ok ⟨#[x, y]⟩ rfl hh.1 hh.2 w)
   have hn : 16 * hxN x.toNat + hxN y.toNat < 256 := by omega
   change Hid (∀ w, Calls Tryz.prog _ _ w fun e w' => e = .returned (.tuple #[.int .u64 ((16 * hxN x.toNat + hxN y.toNat : Nat) : Int), .nilIface]) /\ Below w.heap.size w w') at HP
   obtain ⟨n, hnn⟩ : ∃ n, 16 * hxN x.toNat + hxN y.toNat = n := ⟨_, rfl⟩
   rw [hnn] at H HP hn
   have hn0 : (n : Int) < 256 := by omega
   have hu : (UInt8.ofNat n).toNat = n := by rw [UInt8.toNat_ofNat']; omega
   have HU := Hy hu
   clear hm hcut h0 he HM hl2 hh hnn hu
   go_enter Tryz.func235, Tryz.ntmps235
   go_wp2_with fail
   refine (HI.out _).mono ?_
   rintro e w1 ⟨rfl, hw⟩
   obtain rfl := hw.symm
   go_wp2_with fail
   refine (HP.out _).mono ?_
   rintro e w2 ⟨rfl, hb2⟩
   go_wp2
   go_ret2
   exact ⟨by rw [H.out, RmV, HU.out]; rfl, hb2⟩
  ·have H := Hy (show rmL s.data.toList = none by rw [hl2, rmL_two _ _ _ hm, if_neg hh])
   have HP := Hy (fun w he => pu_no ⟨#[x, y]⟩ rfl hh w he)
   have HE := Hy he
   clear hm hcut h0 he HM hl2 hh
   go_enter Tryz.func235, Tryz.ntmps235
   go_wp2_with fail
   refine (HI.out _).mono ?_
   rintro e w1 ⟨rfl, hw⟩
   obtain rfl := hw.symm
   go_wp2_with fail
   refine (HP.out _ HE.out).mono ?_
   rintro e w2 ⟨⟨N, rfl⟩, hb2⟩
   go_wp2
   go_ret2
   exact ⟨by rw [H.out]; rfl, hb2⟩
end Go.Proofs.YtpkbgkoocijegaaGreatDoor
