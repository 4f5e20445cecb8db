/- The code's Lower hands back small letters for great ones, for every text. The code's Blanks hands back a text without the blanks that do not count, and Fold both, for every text. The code's Int hands back a number's own text, or that there is none, for every text. The code's Int, and Less, for every text. The code's Less tells which of two texts is less, for every two texts. -/
import Derived.Test.YtpkbgkoocijegaaGreatDoorProg
import Derived.WalkKit
import Derived.WalkMore
import Derived.WalkLawsBesides
import Derived.Lib.Hide
import Derived.Outline
import Derived.Test.YtpkbgkoocijegaaGreatDoorPlnA
import Derived.Test.YtpkbgkoocijegaaGreatDoorGenA
import Derived.Test.YtpkbgkoocijegaaGreatDoorGenB
import Derived.Lib.AppendStr
import Derived.Lib.IndexBytes
set_option linter.unusedVariables false
set_option linter.unusedSimpArgs false
set_option maxHeartbeats 25600000
set_option maxRecDepth 100000
namespace Go.Proofs.YtpkbgkoocijegaaGreatDoor
open Go Go.RowKit Go.Proofs.BerK Go.Proofs.MemK Go.Proofs.UtfK
theorem low_high (l : List UInt8) (h : ∀ b ∈ l, 128 <= b.toNat) : lowL l = l := by
 unfold lowL
 rw [List.map_congr_left (g := id) (fun b hb => ?_), List.map_id]
 have := h b hb
 apply UInt8.toNat_inj.1
 rw [low1_toNat, if_neg (by omega)]; rfl
def lowAt (s : ByteArray) (p : Nat) : List UInt8 := lowL (s.data.toList.take p) ++ s.data.toList.drop p
theorem lowAt_0 (s : ByteArray) : lowAt s 0 = s.data.toList := by simp [lowAt, lowL]
theorem lowAt_end (s : ByteArray) : lowAt s s.size = lowL s.data.toList := by
 unfold lowAt
 rw [List.take_of_length_le (by rw [len_list]; exact Nat.le_refl _), List.drop_of_length_le (by rw [len_list]; exact Nat.le_refl _), List.append_nil]
theorem lowAt_len (s : ByteArray) (p : Nat) : (lowAt s p).length = s.size := by
 unfold lowAt
 rw [List.length_append, lowL_length, <- List.length_append, List.take_append_drop, len_list]
theorem lowAt_far (s : ByteArray) (p K : Nat) (mid : List UInt8) (h1 : s.data.toList.take (p + K) = s.data.toList.take p ++ mid) (h2 : s.data.toList.drop p = mid ++ s.data.toList.drop (p + K)) (h : ∀ b ∈ mid, 128 <= b.toNat) : lowAt s (p + K) = lowAt s p := by
 have e : lowL (s.data.toList.take p ++ mid) = lowL (s.data.toList.take p) ++ mid := by
  conv => rhs; rw [<- low_high mid h]
  simp [lowL]
 unfold lowAt
 rw [h1, h2, e, List.append_assoc]
theorem lowAt_cut (s : ByteArray) (p : Nat) (hp : p < s.size) : lowAt s p = lowL (s.data.toList.take p) ++ s[p] :: s.data.toList.drop (p + 1) := by
 have hl := len_list s
 rw [lowAt, drop_at s.data.toList p (by omega)]; rfl
theorem lowAt_step (s : ByteArray) (p : Nat) (hp : p < s.size) : lowAt s (p + 1) = (lowAt s p).set p (low1 s[p]) := by
 have hk : (lowL (s.data.toList.take p)).length = p := by rw [lowL_length, List.length_take, len_list]; omega
 have hl := len_list s
 unfold lowAt
 rw [List.set_append_right _ _ (by omega), hk, Nat.sub_self, drop_at s.data.toList p (by omega), List.set_cons_zero, take_snoc s p hp]
 simp [lowL]
theorem lowAt_same (s : ByteArray) (p : Nat) (hp : p < s.size) (h : low1 s[p] = s[p]) : lowAt s (p + 1) = lowAt s p := by
 have hk : (lowL (s.data.toList.take p)).length = p := by rw [lowL_length, List.length_take, len_list]; omega
 rw [lowAt_step s p hp, h, lowAt_cut s p hp, List.set_append_right _ _ (by omega), hk, Nat.sub_self, List.set_cons_zero]
def StrPost (l : List UInt8) (w : World) (en : Ending) (w' : World) : Prop := en = .returned (.string ⟨l.toArray⟩) /\ Below w.heap.size w w'
theorem strPost_mk {l a : List UInt8} {w w' : World} (h : l = a) (hb : Below w.heap.size w w') : StrPost l w (.returned (.string ⟨a.toArray⟩)) w' := by subst h; exact ⟨rfl, hb⟩
theorem lower_any (s : ByteArray) (w : World) :
  Calls Tryz.prog 74 #[.string s] w (StrPost (lowL s.data.toList) w) := by
 have hcv := run_bytes_of_string (P := Tryz.prog) w 9 188 5 s Tryz.underlying9 Tryz.underlying188 Tryz.underlying5
 have hR := brow_new w w.drew s 5 rfl
 have hB0 : Below w.heap.size w (w.drew.alloc (brow w s 5)) := (Below.refl _ w).drew.alloc (Nat.le_refl _) _
 have hs0 : (w.drew.alloc (brow w s 5)).heap.size = w.heap.size + 1 := by simp
 change (convert 9 188 (.string s)).run Tryz.prog w = .ok _ (w.drew.alloc (brow w s 5)) at hcv
 obtain ⟨W0, hW0⟩ : ∃ W0, w.drew.alloc (brow w s 5) = W0 := ⟨_, rfl⟩
 obtain ⟨cap, hcap⟩ : ∃ c, grownCap w s.size 0 5 = c := ⟨_, rfl⟩
 rw [hW0, hcap] at hcv
 rw [hW0] at hR hB0 hs0
 clear hW0 hcap
 have HR := Hy hR
 clear hR
 go_enter Tryz.func74, Tryz.ntmps74
 go_wp2
 go_loopw [4] (fun _ wr => ∃ pos : Nat, pos <= s.size /\ wr.heap[w.heap.size + 1]? = some (.stringIter s pos) /\ BRow wr w.heap.size (lowAt s pos) /\ Below w.heap.size w wr) (fun _ wr => s.size - wr.iterPos (w.heap.size + 1))
 case atStart =>
  refine ⟨0, by omega, ?_, ?_, ?_⟩
  ·have := World.iter_heap W0 s 0
   rw [hs0] at this; exact this
  ·rw [lowAt_0]; exact brow_alloc HR.out _
  ·exact hB0.alloc (by omega) _
 case round =>
  obtain ⟨pos, hps, hit, hrow, hb⟩ := hrel
  have hip := iterPos_of hit
  by_cases hlt : pos < s.size
  ·have hnx : ∀ ty, (Instr.next (.pointer (some ⟨w.heap.size + 1, 0, none⟩)) true ty).run Tryz.prog wr = _ := fun ty => Lib.run_next_any_at wr (w.heap.size + 1) s pos ty hit hlt
   have hl := len_list s
   by_cases ha : s[pos].toNat < 128
   ·rw [decode_ascii s pos hlt ha] at hnx
    simp only [] at hnx
    have hit2 := Lib.iterAt_heap wr _ s pos (pos + 1) hit
    have hrow2 := brow_iter hrow (k := w.heap.size + 1) (by omega) s (pos + 1)
    have hb2 := below_iter hb (k := w.heap.size + 1) (by omega) s (pos + 1)
    obtain ⟨W2, hW2⟩ : ∃ W2, wr.iterAt (w.heap.size + 1) s (pos + 1) = W2 := ⟨_, rfl⟩
    rw [hW2] at hnx hit2 hrow2 hb2
    have hip2 := iterPos_of hit2
    have hstep := lowAt_step s pos hlt
    by_cases hu : 65 <= s[pos].toNat /\ s[pos].toNat <= 90
    ·have hv : ((low1 s[pos]).toNat : Int) = (s[pos].toNat : Int) - 65 + 97 := by rw [low1_toNat, if_pos hu]; omega
     have hcell := hrow2.2.1 pos (by rw [lowAt_len]; exact hlt)
     have hfz := hrow2.2.2 pos (by rw [lowAt_len]; exact hlt)
     obtain ⟨x, hx⟩ : ∃ x : UInt8, (lowAt s pos)[pos]'(by rw [lowAt_len]; exact hlt) = x := ⟨_, rfl⟩
     rw [hx] at hcell
     obtain ⟨c, hc⟩ : ∃ c, s[pos].toNat = c := ⟨_, rfl⟩
     rw [hc] at hnx hu ha hv
     have hrow3 := brow_set hrow2 pos (low1 s[pos])
     rw [hv, <- hstep] at hrow3
     have hit3 := (Below.heap_setCell W2 ⟨w.heap.size, pos, none⟩ (.int .u8 ((c : Int) - 65 + 97)) (w.heap.size + 1) (by simp)).trans hit2
     have hb3 := hb2.setCell (p := ⟨w.heap.size, pos, none⟩) (Nat.le_refl _) (.int .u8 ((c : Int) - 65 + 97))
     have hip3 := iterPos_of hit3
     have H := Hy (An hrow3 (An hit3 (An hb3 (An hip hip3))))
     obtain ⟨hu1, hu2⟩ := hu
     clear hrow hit hrow2 hit2 hb hb2 hstep hip hip2 hv hW2 hx hc hrow3 hit3 hb3 hip3
     have hu1' : (65 : Int) <= (c : Int) := by omega
     have hu2' : (c : Int) <= 90 := by omega
     go_wp2
     obtain ⟨h1, h2, h3, h4, h5⟩ := H.out
     exact ⟨⟨pos + 1, by omega, h2, h1, h3⟩, by rw [h4, h5]; omega⟩
    ·have hsame := lowAt_same s pos hlt (by apply UInt8.toNat_inj.1; rw [low1_toNat, if_neg hu])
     rw [<- hsame] at hrow2
     have H := Hy (An hrow2 (An hit2 (An hb2 (An hip hip2))))
     obtain ⟨c, hc⟩ : ∃ c, s[pos].toNat = c := ⟨_, rfl⟩
     rw [hc] at hnx hu ha
     have hu' : (c : Int) < 65 \/ (90 : Int) < (c : Int) := by omega
     clear hrow hit hrow2 hit2 hb hb2 hstep hip hip2 hW2 hc hsame hu
     rcases hu' with hu' | hu'
     all_goals
      go_wp2
      obtain ⟨h1, h2, h3, h4, h5⟩ := H.out
      exact ⟨⟨pos + 1, by omega, h2, h1, h3⟩, by rw [h4, h5]; omega⟩
   ·obtain ⟨mid, m1, m2, m3, m4, m5, m6⟩ := dec_mid s pos hlt (by omega)
    have hfar := lowAt_far s pos _ mid m1 m2 m3
    obtain ⟨R, hR⟩ : ∃ R, (Utf8.decode s pos).1 = R := ⟨_, rfl⟩
    obtain ⟨K, hK⟩ : ∃ K, (Utf8.decode s pos).2 = K := ⟨_, rfl⟩
    rw [hR, hK] at hnx
    rw [hR] at m6
    rw [hK] at m4 m5 hfar
    have hit2 := Lib.iterAt_heap wr _ s pos (pos + K) hit
    have hrow2 := brow_iter hrow (k := w.heap.size + 1) (by omega) s (pos + K)
    have hb2 := below_iter hb (k := w.heap.size + 1) (by omega) s (pos + K)
    obtain ⟨W2, hW2⟩ : ∃ W2, wr.iterAt (w.heap.size + 1) s (pos + K) = W2 := ⟨_, rfl⟩
    rw [hW2] at hnx hit2 hrow2 hb2
    have hip2 := iterPos_of hit2
    rw [<- hfar] at hrow2
    have H := Hy (An hrow2 (An hit2 (An hb2 (An hip hip2))))
    have hu' : (90 : Int) < (R : Int) := by omega
    clear hrow hit hrow2 hit2 hb hb2 hip hip2 hW2 hR hK m1 m2 m3 m6 hfar ha
    go_wp2
    obtain ⟨h1, h2, h3, h4, h5⟩ := H.out
    exact ⟨⟨pos + K, by omega, h2, h1, h3⟩, by rw [h4, h5]; omega⟩
  ·have hnx : ∀ ty, (Instr.next (.pointer (some ⟨w.heap.size + 1, 0, none⟩)) true ty).run Tryz.prog wr = _ := fun ty => Lib.run_next_end_at wr (w.heap.size + 1) s pos ty hit hlt
   obtain rfl : pos = s.size := by omega
   rw [lowAt_end] at hrow
   have hc := conv_brow (P := Tryz.prog) (src := 188) (dst := 9) (n := s.size) (cap := cap) Tryz.underlying188 Tryz.underlying5 Tryz.underlying9 hrow (by rw [lowL_length, len_list])
   have H := Hy hb
   clear hrow hit hb hip
   go_wp2
   go_ret
   exact ⟨rfl, H.out⟩
theorem Tryz.info5 : (Tryz.prog.info? 5).map (fun i => (i.zero, i.size, i.bytes)) = some (some (.int .u8 0), 1, 1) := by kernel_rfl
def appW (X w : List UInt8) : List UInt8 := if w = [] then X else if X = [] then w else X ++ 32 :: w
def neL (X : List UInt8) : Bool := !X.isEmpty
theorem bl_word (w t : List UInt8) (hw : ∀ b ∈ w, b ≠ 32) (h0 : w ≠ []) : ∀ ne, bl ne (w ++ t) = w ++ bl true t := by
 induction w with
 | nil => exact absurd rfl h0
 | cons c r ih =>
  intro ne
  have hc : c ≠ 32 := hw c (by simp)
  rw [List.cons_append, bl, if_pos hc]
  by_cases hr : r = []
  ·subst hr; rfl
  ·rw [ih (fun b hb => hw b (by simp [hb])) hr true]; rfl
theorem bl_two (ne : Bool) (r : List UInt8) : bl ne (32 :: 32 :: r) = bl ne (32 :: r) := by
 rw [bl, if_neg (by simp), if_neg (by simp [hdn])]
theorem app_step (X w t : List UInt8) (hw : ∀ b ∈ w, b ≠ 32) (ht : t = [] \/ ∃ r, t = 32 :: r) : X ++ bl (neL X) (32 :: (w ++ t)) = appW X w ++ bl (neL (appW X w)) t := by
 by_cases h0 : w = []
 ·subst h0
  rw [List.nil_append, appW, if_pos rfl]
  rcases ht with rfl | ⟨r, rfl⟩
  ·simp [bl, hdn]
  ·rw [bl_two]
 ·have hh : hdn (w ++ t) = true := by
   cases w with
   | nil => exact absurd rfl h0
   | cons c r => simpa [hdn] using hw c (by simp)
  rw [bl, if_neg (by simp), bl_word w t hw h0]
  by_cases hX : X = []
  ·subst hX
   have e : appW [] w = w := by rw [appW, if_neg h0, if_pos rfl]
   have e2 : neL w = true := by cases w with
    | nil => exact absurd rfl h0
    | cons c r => rfl
   rw [e, e2, if_neg (by simp [neL])]; rfl
  ·have e : appW X w = X ++ 32 :: w := by rw [appW, if_neg h0, if_neg hX]
   have e2 : neL (X ++ 32 :: w) = true := by cases X <;> simp [neL]
   have e3 : neL X = true := by cases X with
    | nil => exact absurd rfl hX
    | cons c r => rfl
   rw [e, e2, if_pos ⟨e3, hh⟩]
   simp
theorem appW_room (X w : List UInt8) (f k : Nat) (h : X = [] \/ X.length + 1 <= f) (hk : f + w.length <= k) : appW X w = [] \/ (appW X w).length + 1 <= k + 1 := by
 unfold appW
 repeat' split
 ·rcases h with h | h
  ·exact .inl h
  ·exact .inr (by omega)
 ·exact .inr (by omega)
 ·rcases h with h | h
  ·exact absurd h (by assumption)
  ·right; simp; omega
def AwPost (B : Nat) (e : TypeId) (v : Value) (L : List UInt8) (w : World) (en : Ending) (w' : World) : Prop :=
 ∃ v', en = .returned v' /\ w'.ownsRow B e 1 v' L.length (bc L) /\ Chg (fun k => some k = v.ownBlock) w w'
theorem aword_none (B : Nat) (v : Value) (X : List UInt8) (x : ByteArray) (w : World) (h : w.ownsRow B 5 1 v X.length (bc X)) (hx : x.data.toList = []) :
  Calls Tryz.prog 216 #[v, .string x] w (AwPost B 5 v (appW X x.data.toList) w) := by
 have e : appW X x.data.toList = X := by rw [appW, if_pos hx]
 rw [e]
 have hem : x.toList.isEmpty = true := by rw [ByteArray.toList_eq, hx]; rfl
 clear hx e
 go_enter Tryz.func216, Tryz.ntmps216
 go_wp2
 go_ret
 exact ⟨v, rfl, h, Chg.refl _ _⟩
theorem aword_first (B : Nat) (v : Value) (x : ByteArray) (w : World) (h : w.ownsRow B 5 1 v 0 (bc [])) (hx : x.data.toList ≠ []) (hB : B <= w.heap.size) (hm : x.size + 1 <= 140737488355328) :
  Calls Tryz.prog 216 #[v, .string x] w (AwPost B 5 v x.data.toList w) := by
 have hem : x.toList.isEmpty = false := by
  rw [ByteArray.toList_eq]
  cases hq : x.data.toList with
  | nil => exact absurd hq hx
  | cons a l => rfl
 obtain ⟨a, c, rfl⟩ := ownsRow_slice h
 obtain ⟨i, hi, hz0, hz1, hz2⟩ := info_parts Tryz.info5
 have HI := Hy (An hi (An hz0 (An hz1 hz2)))
 have HO := Hy h
 clear hx h hi hz0 hz1 hz2
 go_enter Tryz.func216, Tryz.ntmps216
 go_wp2_with (at_builtin; refine Lib.wpList_append_own_string _ rfl (.tmp 14) (.tmp 15) 188 9 rfl B 5 i Tryz.underlying188 Tryz.underlying9 HI.out.1 HI.out.2.1 HI.out.2.2.1 HI.out.2.2.2 _ 0 (bc []) rfl HO.out x rfl ?c1 ?c2 hB ?_)
 case c1 => unfold maxLen; omega
 case c2 => omega
 intro v2 w2 hown2 hg2 _
 go_wp2
 go_ret
 exact ⟨v2, rfl, by rw [strCells_bc] at hown2; simpa [len_list, bc] using hown2, Chg.ofGrown hg2⟩
theorem aword_more (B : Nat) (v : Value) (X : List UInt8) (x : ByteArray) (w : World) (h : w.ownsRow B 5 1 v X.length (bc X)) (hx : x.data.toList ≠ []) (hX : X ≠ []) (hB : B <= w.heap.size) (hm : X.length + 1 + x.size <= 140737488355328) :
  Calls Tryz.prog 216 #[v, .string x] w (AwPost B 5 v (X ++ 32 :: x.data.toList) w) := by
 have hem : x.toList.isEmpty = false := by
  rw [ByteArray.toList_eq]
  cases hq : x.data.toList with
  | nil => exact absurd hq hx
  | cons a l => rfl
 have hX0 : 0 < X.length := List.length_pos_iff.2 hX
 obtain ⟨a, c, rfl⟩ := ownsRow_slice h
 obtain ⟨i, hi, hz0, hz1, hz2⟩ := info_parts Tryz.info5
 have HI := Hy (An hi (An hz0 (An hz1 hz2)))
 obtain ⟨n, hn⟩ : ∃ n, X.length = n := ⟨_, rfl⟩
 rw [hn] at h hX0 hm ⊢
 have HO := Hy h
 clear hx h hi hz0 hz1 hz2 hX
 have hn0 : (0 : Int) < (n : Int) := by omega
 go_enter Tryz.func216, Tryz.ntmps216
 go_wp2_with (at_builtin; refine wpList_pushc rfl (.tmp 11) (.tmp 12) 188 5 rfl B 1 1 (.int .u8 0) Tryz.info5 Tryz.underlying188 rfl (by decide) [.int .u8 32] rfl ?c0 _ n _ rfl _ rfl ?c3 HO.out ?c1 ?c2 hB ?_)
 case c0 => intro u hu; simp at hu; subst hu; rfl
 case c1 => unfold maxLen; omega
 case c2 => omega
 case c3 => rfl
 intro v1 w1 hown1 hg1 hb1
 obtain ⟨a1, c1, rfl⟩ := ownsRow_slice hown1
 have hB1 : B <= w1.heap.size := Nat.le_trans hB hg1.size
 go_wp2_with (at_builtin; refine Lib.wpList_append_own_string _ rfl (.tmp 14) (.tmp 15) 188 9 rfl B 5 i Tryz.underlying188 Tryz.underlying9 HI.out.1 HI.out.2.1 HI.out.2.2.1 HI.out.2.2.2 _ (n + 1) _ rfl hown1 x rfl ?d1 ?d2 hB1 ?_)
 case d1 => unfold maxLen; omega
 case d2 => omega
 intro v2 w2 hown2 hg2 _
 go_wp2
 go_ret
 refine ⟨v2, rfl, ?_, hg1.trans (Chg.ofGrown hg2) ?_⟩
 ·rw [strCells_bc] at hown2
  have e : bc X ++ Value.int .u8 32 :: bc x.data.toList = bc (X ++ 32 :: x.data.toList) := by simp [bc]
  rw [e] at hown2
  have e2 : (X ++ 32 :: x.data.toList).length = n + 1 + x.size := by rw [List.length_append, List.length_cons, len_list, hn]; omega
  rw [e2]; exact hown2
 ·intro k hk hkb
  rcases hb1 with hb1 | ⟨k1, hb1, hk1⟩
  ·rw [<- hb1]; exact hkb
  ·rw [hb1] at hkb
   injection hkb with hkb
   omega
theorem aword_any (B : Nat) (v : Value) (X : List UInt8) (x : ByteArray) (w : World) (h : w.ownsRow B 5 1 v X.length (bc X)) (hB : B <= w.heap.size) (hm : X.length + 1 + x.size <= 140737488355328) :
  Calls Tryz.prog 216 #[v, .string x] w (AwPost B 5 v (appW X x.data.toList) w) := by
 by_cases hx : x.data.toList = []
 ·exact aword_none B v X x w h hx
 ·by_cases hX : X = []
  ·subst hX
   rw [appW, if_neg hx, if_pos rfl]
   exact aword_first B v x w h hx hB (by simp at hm; omega)
  ·rw [appW, if_neg hx, if_neg hX]
   exact aword_more B v X x w h hx hX hB hm
theorem word_at (s : ByteArray) (f p : Nat) : (s.extract f p).data.toList = (s.data.toList.drop f).take (p - f) := Lib.extract_data s f p
theorem word_ext (l : List UInt8) (f p K : Nat) (mid : List UInt8) (hf : f <= p) (h : l.take (p + K) = l.take p ++ mid) : (l.drop f).take (p + K - f) = (l.drop f).take (p - f) ++ mid := by
 by_cases hp : p <= l.length
 ·rw [<- List.drop_take, <- List.drop_take, h, List.drop_append_of_le_length (by simp; omega)]
 ·rw [List.take_of_length_le (by omega), List.take_of_length_le (by omega)] at h
  have hm : mid = [] := by simpa using h
  rw [hm, List.append_nil, List.take_of_length_le (by simp; omega), List.take_of_length_le (by simp; omega)]
theorem blanks_any (s : ByteArray) (w : World) (hm : s.size + 1 <= 140737488355328) :
  Calls Tryz.prog 179 #[.string s] w (StrPost (blL s.data.toList) w) := by
 obtain ⟨i0, hi, hz0, hz1, hz2⟩ := info_parts Tryz.info5
 have HI := Hy (An hi (An hz0 (An hz1 hz2)))
 clear hi hz0 hz1 hz2
 go_enter Tryz.func179, Tryz.ntmps179
 go_wp2_with (at_make; refine wpList_make_own _ rfl _ _ 188 rfl w.heap.size 5 i0 (.int .u8 0) 1 Tryz.underlying188 HI.out.1 HI.out.2.1 HI.out.2.2.1 _ _ _ s.size rfl rfl ?e1 ?b0 ?b1 ?b2 ?_)
 case e1 => rfl
 case b0 => rw [HI.out.2.2.2]; omega
 case b1 => unfold maxLen; omega
 case b2 => omega
 intro w1 hown1 hg1
 have hb1 : Below w.heap.size w w1 := (Below.refl _ _).grown hg1 (Nat.le_refl _) (fun k hk => by cases hk)
 have hz1 := hg1.size
 clear hg1
 have H1 := Hy (An hown1 hb1)
 clear hown1 hb1
 go_wp2
 go_loopw [3, 4] (fun o f wr => ∃ (pos from' : Nat) (X : List UInt8), pos <= s.size /\ from' <= pos /\ f = .int .i64 from' /\ wr.ownsRow w.heap.size 5 1 o X.length (bc X) /\ wr.heap[w1.heap.size]? = some (.stringIter s pos) /\ Below w.heap.size w wr /\ w1.heap.size < wr.heap.size /\
  (X = [] \/ X.length + 1 <= from') /\ X ++ bl (neL X) (32 :: s.data.toList.drop from') = blL s.data.toList /\ (∀ b ∈ (s.data.toList.drop from').take (pos - from'), b ≠ 32)) (fun _ _ wr => s.size - wr.iterPos w1.heap.size)
 case atStart =>
  refine ⟨0, 0, [], by omega, by omega, rfl, ?_, World.iter_heap w1 s 0, H1.out.2.alloc hz1 _, (Array.getElem?_eq_some_iff.1 (World.iter_heap w1 s 0)).1, .inl rfl, ?_, fun b hb => by simp at hb⟩
  ·exact H1.out.1.alloc _
  ·show bl false (32 :: s.data.toList) = _
   rw [bl, if_neg (by simp), if_neg (by simp)]; rfl
 case round =>
  obtain ⟨pos, from', X, hps, hfp, rfl, hown, hit, hb, hsz, hroom, hinv, hnb⟩ := hrel
  have hip := iterPos_of hit
  have hl := len_list s
  by_cases hlt : pos < s.size
  ·have hnx : ∀ ty, (Instr.next (.pointer (some ⟨w1.heap.size, 0, none⟩)) true ty).run Tryz.prog wr = _ := fun ty => Lib.run_next_any_at wr w1.heap.size s pos ty hit hlt
   by_cases ha : s[pos].toNat < 128
   ·rw [decode_ascii s pos hlt ha] at hnx
    simp only [] at hnx
    have hit2 := Lib.iterAt_heap wr _ s pos (pos + 1) hit
    have hown2 := own_iter hown hit (pos + 1)
    have hb2 := below_iter hb (k := w1.heap.size) hz1 s (pos + 1)
    have hsz2 : w1.heap.size < (wr.iterAt w1.heap.size s (pos + 1)).heap.size := by rw [Lib.iterAt_size]; exact hsz
    obtain ⟨W2, hW2⟩ : ∃ W2, wr.iterAt w1.heap.size s (pos + 1) = W2 := ⟨_, rfl⟩
    rw [hW2] at hnx hit2 hown2 hb2 hsz2
    have hip2 := iterPos_of hit2
    have hword := word_ext s.data.toList from' pos 1 [s[pos]] hfp (take_snoc s pos hlt)
    by_cases h32 : s[pos].toNat = 32
    ·have e32 : s[pos] = 32 := UInt8.toNat_inj.1 h32
     have hcut : s.data.toList.drop from' = (s.data.toList.drop from').take (pos - from') ++ 32 :: s.data.toList.drop (pos + 1) := by
      conv => lhs; rw [<- List.take_append_drop (pos - from') (s.data.toList.drop from')]
      rw [List.drop_drop, show from' + (pos - from') = pos by omega, drop_at s.data.toList pos (by omega), at_list s pos hlt, e32]
     have hwl : ((s.data.toList.drop from').take (pos - from')).length = pos - from' := by simp; omega
     have hroom2 := appW_room X _ from' pos hroom (by rw [hwl]; omega)
     have hstep := app_step X _ (32 :: s.data.toList.drop (pos + 1)) hnb (.inr ⟨_, rfl⟩)
     rw [<- hcut, hinv] at hstep
     rw [<- word_at] at hroom2 hstep
     have hXl : X.length + 1 + (s.extract from' pos).size <= 140737488355328 := by
      rw [<- len_list, word_at, hwl]
      rcases hroom with rfl | hroom
      ·simp; omega
      ·omega
     rw [h32] at hnx
     have HC := Hy (aword_any w.heap.size u3 X (s.extract from' pos) W2 hown2 hb2.size hXl)
     have hni := own_not_iter hown2 hit2
     have hlt2 := hown2.lt
     have H := Hy (An hit2 (An hb2 (An hsz2 (An hip (An hni (An hlt2 (An hroom2 hstep)))))))
     clear hown hit hown2 hit2 hb hb2 hsz hsz2 hip hip2 hW2 hinv hnb hroom hword hcut hwl hroom2 hstep hXl ha h32 e32 hl hni hlt2
     go_wp2_with fail
     refine HC.out.mono ?_
     rintro e w3 ⟨v3, rfl, hown3, hc3⟩
     obtain ⟨h1, h2, h3, h4, h5, h6, h7, h8⟩ := H.out
     have hit3 := obj_chg h1 hc3 h5
     have hb3 := h2.trans (hc3.toBelow h2.size (fun k _ hk => (h6 k hk.symm).1))
     have hip3 := iterPos_of hit3
     have hsz3 := Nat.lt_of_lt_of_le h3 hc3.size
     have H3 := Hy (An hit3 (An hb3 (An hip3 (An hsz3 hown3))))
     clear hit3 hb3 hip3 hsz3 hown3 h1 h2 h3 h5 h6 hc3 h7 h8 h4
     go_wp2
     obtain ⟨h1, h2, h3, h4, h5, h6, h7, h8⟩ := H.out
     obtain ⟨g1, g2, g3, g4, g5⟩ := H3.out
     refine ⟨⟨pos + 1, pos + 1, _, by omega, by omega, by go_num, g5, g1, g2, g4, h7, h8.symm, fun b hb => by simp at hb⟩, by rw [h4, g3]; omega⟩
    ·have hnb2 : ∀ b ∈ (s.data.toList.drop from').take (pos + 1 - from'), b ≠ 32 := by
      rw [hword]
      intro b hb
      rcases List.mem_append.1 hb with hb | hb
      ·exact hnb b hb
      ·obtain rfl := List.mem_singleton.1 hb
       intro e; apply h32; rw [e]; rfl
     have H := Hy (An hit2 (An hb2 (An hsz2 (An hip (An hip2 (An hown2 (An hroom (An hinv hnb2))))))))
     obtain ⟨c, hc⟩ : ∃ c, s[pos].toNat = c := ⟨_, rfl⟩
     rw [hc] at hnx h32 ha
     have hc1 : ((c : Int) == 32) = false := by rw [beq_eq_false_iff_ne]; omega
     clear hown hit hown2 hit2 hb hb2 hsz hsz2 hip hip2 hW2 hinv hnb hroom hword hnb2 h32 hc
     go_wp2
     obtain ⟨h1, h2, h3, h4, h5, h6, h7, h8, h9⟩ := H.out
     exact ⟨⟨pos + 1, from', X, by omega, by omega, rfl, h6, h1, h2, h3, h7, h8, h9⟩, by rw [h4, h5]; omega⟩
   ·obtain ⟨mid, m1, m2, m3, m4, m5, m6⟩ := dec_mid s pos hlt (by omega)
    obtain ⟨R, hR⟩ : ∃ R, (Utf8.decode s pos).1 = R := ⟨_, rfl⟩
    obtain ⟨K, hK⟩ : ∃ K, (Utf8.decode s pos).2 = K := ⟨_, rfl⟩
    rw [hR, hK] at hnx
    rw [hR] at m6
    rw [hK] at m1 m4 m5
    have hword := word_ext s.data.toList from' pos K mid hfp m1
    have hnb2 : ∀ b ∈ (s.data.toList.drop from').take (pos + K - from'), b ≠ 32 := by
     rw [hword]
     intro b hb
     rcases List.mem_append.1 hb with hb | hb
     ·exact hnb b hb
     ·have := m3 b hb
      intro e; rw [e] at this; simp at this
    have hit2 := Lib.iterAt_heap wr _ s pos (pos + K) hit
    have hown2 := own_iter hown hit (pos + K)
    have hb2 := below_iter hb (k := w1.heap.size) hz1 s (pos + K)
    have hsz2 : w1.heap.size < (wr.iterAt w1.heap.size s (pos + K)).heap.size := by rw [Lib.iterAt_size]; exact hsz
    obtain ⟨W2, hW2⟩ : ∃ W2, wr.iterAt w1.heap.size s (pos + K) = W2 := ⟨_, rfl⟩
    rw [hW2] at hnx hit2 hown2 hb2 hsz2
    have hip2 := iterPos_of hit2
    have H := Hy (An hit2 (An hb2 (An hsz2 (An hip (An hip2 (An hown2 (An hroom (An hinv hnb2))))))))
    have hc1 : ((R : Int) == 32) = false := by rw [beq_eq_false_iff_ne]; omega
    clear hown hit hown2 hit2 hb hb2 hsz hsz2 hip hip2 hW2 hinv hnb hroom hword hnb2 hR hK m1 m2 m3 m6 ha
    go_wp2
    obtain ⟨h1, h2, h3, h4, h5, h6, h7, h8, h9⟩ := H.out
    exact ⟨⟨pos + K, from', X, by omega, by omega, rfl, h6, h1, h2, h3, h7, h8, h9⟩, by rw [h4, h5]; omega⟩
  ·have hnx : ∀ ty, (Instr.next (.pointer (some ⟨w1.heap.size, 0, none⟩)) true ty).run Tryz.prog wr = _ := fun ty => Lib.run_next_end_at wr w1.heap.size s pos ty hit hlt
   obtain rfl : pos = s.size := by omega
   have hwl : (s.data.toList.drop from').take (s.size - from') = s.data.toList.drop from' := List.take_of_length_le (by rw [List.length_drop, hl]; omega)
   rw [hwl] at hnb
   have hstep := app_step X _ [] hnb (.inl rfl)
   rw [List.append_nil, hinv] at hstep
   have e0 : ∀ ne, bl ne [] = [] := fun ne => rfl
   rw [e0, List.append_nil, <- hwl, <- word_at] at hstep
   have hXl : X.length + 1 + (s.extract from' s.size).size <= 140737488355328 := by
    rw [<- len_list, word_at, hwl, List.length_drop, hl]
    rcases hroom with rfl | hroom
    ·simp; omega
    ·omega
   have HC := Hy (aword_any w.heap.size u3 X (s.extract from' s.size) wr hown hb.size hXl)
   have hlt2 := hown.lt
   have H := Hy (An hb (An hlt2 hstep))
   clear hown hit hb hip hsz hlt hinv hnb hroom hwl hstep hXl hlt2 e0 hl
   go_wp2_with fail
   refine HC.out.mono ?_
   rintro e w3 ⟨v3, rfl, hown3, hc3⟩
   obtain ⟨h1, h2, h3⟩ := H.out
   have hb3 := h1.trans (hc3.toBelow h1.size (fun k _ hk => (h2 k hk.symm).1))
   have hcv := conv_own' (P := Tryz.prog) (src := 188) (dst := 9) Tryz.underlying188 Tryz.underlying5 Tryz.underlying9 hown3
   have H3 := Hy hb3
   clear hb3 hown3 hc3 h1 h2 h3
   go_wp2
   go_ret
   exact strPost_mk (by rw [H.out.2.2, word_at]) H3.out
theorem fold_any (s : ByteArray) (w : World) (hm : s.size + 1 <= 140737488355328) :
  Calls Tryz.prog 220 #[.string s] w (StrPost (foldL s.data.toList) w) := by
 obtain ⟨L, hL⟩ : ∃ L, blL s.data.toList = L := ⟨_, rfl⟩
 have HC := Hy (blanks_any s w hm)
 rw [hL] at HC
 have hF : foldL s.data.toList = lowL L := by rw [foldL, hL]
 rw [hF]
 clear hL hF hm
 go_enter Tryz.func220, Tryz.ntmps220
 go_wp2_with fail
 refine HC.out.mono ?_
 rintro e w1 ⟨rfl, hb1⟩
 go_wp2_with fail
 refine (lower_any ⟨L.toArray⟩ w1).mono ?_
 rintro e w2 ⟨rfl, hb2⟩
 have hend := hb1.trans (hb2.mono hb1.size)
 clear hb1 hb2
 go_wp2
 go_ret
 exact ⟨rfl, hend⟩
def hasM (l : List UInt8) : Bool := decide (l.head? = some 45)
theorem head_at (s : ByteArray) (h : 0 < s.size) : s.data.toList.head? = some s[0] := by
 have hl := len_list s
 rw [List.head?_eq_getElem?, List.getElem?_eq_getElem (by omega)]; rfl
theorem hasM_true (s : ByteArray) (h : 0 < s.size) (h0 : s[0] = 45) : hasM s.data.toList = true := by simp [hasM, head_at s h, h0]
theorem hasM_false (s : ByteArray) (h : 0 < s.size) (h0 : s[0] ≠ 45) : hasM s.data.toList = false := by simp [hasM, head_at s h, h0]
theorem digs_true (l : List UInt8) (h : hasM l = true) : digs l = l.drop 1 := by rw [digs, if_pos (by simpa [hasM] using h)]
theorem digs_false (l : List UInt8) (h : hasM l = false) : digs l = l := by rw [digs, if_neg (by simpa [hasM] using h)]
theorem first_one (s : ByteArray) (h : 0 < s.size) : (s.extract 0 1).data.toList = [s[0]] := by
 have hl := len_list s
 rw [Lib.extract_data, List.drop_zero, show (1 - 0) = 0 + 1 by omega, List.take_succ_eq_append_getElem (by omega)]; rfl
def CutPost (l : List UInt8) (w : World) (en : Ending) (w' : World) : Prop := en = .returned (.tuple #[.string ⟨(digs l).toArray⟩, .bool (hasM l)]) /\ w' = w
theorem mk_list (x : ByteArray) : (⟨x.data.toList.toArray⟩ : ByteArray) = x := by cases x; simp
theorem cutPost_mk {l : List UInt8} {x : ByteArray} {b : Bool} {w : World} (h1 : digs l = x.data.toList) (h2 : hasM l = b) : CutPost l w (.returned (.tuple #[.string x, .bool b])) w := by
 refine ⟨?_, rfl⟩
 rw [h1, h2, mk_list]
theorem cut_any (s : ByteArray) (w : World) :
  Calls Tryz.prog 217 #[.string s, .string ⟨#[45]⟩] w (CutPost s.data.toList w) := by
 by_cases h : s.size = 0
 ·have hn : s.data.toList = [] := List.eq_nil_of_length_eq_zero (by rw [len_list]; exact h)
  have H := Hy (An (show digs s.data.toList = s.data.toList by rw [hn]; rfl) (show hasM s.data.toList = false by rw [hn]; rfl))
  clear hn
  go_enter Tryz.func217, Tryz.ntmps217
  go_wp2
  go_ret2
  exact cutPost_mk H.out.1 H.out.2
 ·have h1 : 1 <= s.size := by omega
  have h2 : (1 : Int) <= (s.size : Int) := by omega
  have hf := first_one s (by omega)
  by_cases h0 : s[0] = 45
  ·have ht : ((s.extract 0 1).toList == [45]) = true := by rw [ByteArray.toList_eq, hf, h0]; rfl
   have hm := hasM_true s (by omega) h0
   have H := Hy (An (show digs s.data.toList = (s.extract 1 s.size).data.toList by rw [digs_true _ hm, Lib.extract_to_end]) hm)
   clear hf h0 hm h
   go_enter Tryz.func217, Tryz.ntmps217
   go_wp2
   go_ret2
   exact cutPost_mk H.out.1 H.out.2
  ·have ht : ((s.extract 0 1).toList == [45]) = false := by
    rw [ByteArray.toList_eq, hf, beq_eq_false_iff_ne]; intro hh; injection hh; contradiction
   have hm := hasM_false s (by omega) h0
   have H := Hy (An (digs_false _ hm) hm)
   clear hf h0 hm h
   go_enter Tryz.func217, Tryz.ntmps217
   go_wp2
   go_ret2
   exact cutPost_mk H.out.1 H.out.2
def tz (l : List UInt8) : List UInt8 := l.dropWhile (· == 48)
theorem tz_cons (c : UInt8) (l : List UInt8) : tz (c :: l) = if c = 48 then tz l else c :: l := by
 unfold tz
 by_cases h : c = 48 <;> simp [h]
theorem strip_tz (l : List UInt8) (h : l ≠ []) : strip l = if tz l = [] then [48] else tz l := by
 induction l with
 | nil => exact absurd rfl h
 | cons c r ih =>
  cases r with
  | nil =>
   rw [tz_cons]
   by_cases hc : c = 48
   ·subst hc; rfl
   ·rw [if_neg hc, if_neg (by simp)]; rfl
  | cons d r =>
   rw [strip, tz_cons]
   by_cases hc : c = 48
   ·rw [if_pos hc, if_pos hc, ih (by simp)]
   ·rw [if_neg hc, if_neg hc, if_neg (by simp)]
theorem tz_not (l : List UInt8) : tz l ≠ [48] := by
 induction l with
 | nil => simp [tz]
 | cons c r ih =>
  rw [tz_cons]
  split
  ·exact ih
  ·intro h; injection h; contradiction
theorem tz_len (l : List UInt8) : (tz l).length <= l.length := by
 unfold tz; exact (List.dropWhile_sublist _).length_le
def strSz : Value -> Nat
 | .string x => x.size
 | _ => 0
def TrimPost (l : List UInt8) (w : World) (en : Ending) (w' : World) : Prop := en = .returned (.string ⟨(tz l).toArray⟩) /\ w' = w
theorem trimPost_mk {l : List UInt8} {x : ByteArray} {w : World} (h1 : tz l = x.data.toList) : TrimPost l w (.returned (.string x)) w := by
 refine ⟨?_, rfl⟩
 rw [h1, mk_list]
theorem list_cut (x : ByteArray) (h : 0 < x.size) : x.data.toList = x[0] :: (x.extract 1 x.size).data.toList := by
 have hl := len_list x
 rw [Lib.extract_to_end]
 have h := drop_at x.data.toList 0 (by omega)
 rw [List.drop_zero] at h
 exact h
theorem trimb_any (s : ByteArray) (w : World) :
  Calls Tryz.prog 227 #[.string s, .int .u8 48] w (TrimPost s.data.toList w) := by
 obtain ⟨L, hL⟩ : ∃ L, s.data.toList = L := ⟨_, rfl⟩
 rw [hL]
 go_enter Tryz.func227, Tryz.ntmps227
 go_wp2
 go_loop [0] (fun v => ∃ x : ByteArray, v = .string x /\ tz x.data.toList = tz L) (fun v => strSz v)
 case atStart => exact ⟨s, rfl, by rw [hL]⟩
 case round =>
  obtain ⟨x, rfl, hx⟩ := hrel
  by_cases h : x.size = 0
  ·have hn : x.data.toList = [] := List.eq_nil_of_length_eq_zero (by rw [len_list]; exact h)
   rw [hn] at hx
   have H := Hy (hx.symm.trans (show tz [] = x.data.toList by rw [hn]; rfl))
   clear hx hn
   go_wp2
   go_ret
   exact trimPost_mk H.out
  ·have hp : 0 < x.size := by omega
   have h1 : 1 <= x.size := hp
   have h2 : (0 : Int) < (x.size : Int) := by omega
   have h3 : (1 : Int) <= (x.size : Int) := by omega
   have hcut := list_cut x hp
   rw [hcut, tz_cons] at hx
   have hb := x[0].toNat_lt
   by_cases h0 : x[0] = 48
   ·rw [if_pos h0] at hx
    have ht : ((x[0].toNat : Int) == 48) = true := by rw [h0]; rfl
    have H := Hy hx
    obtain ⟨c, hc⟩ : ∃ c, x[0].toNat = c := ⟨_, rfl⟩
    rw [hc] at ht hb
    clear hx hcut h0 h
    go_wp2
    refine ⟨⟨_, rfl, H.out⟩, ?_⟩
    show (x.extract 1 x.size).size < x.size
    rw [<- len_list (x.extract 1 x.size), Lib.extract_to_end, List.length_drop, len_list]; omega
   ·rw [if_neg h0] at hx
    have ht : ((x[0].toNat : Int) == 48) = false := by
     rw [beq_eq_false_iff_ne]; intro hh; apply h0; apply UInt8.toNat_inj.1; show _ = 48; omega
    rw [<- hcut] at hx
    have H := Hy hx
    clear hx hcut h0 h
    go_wp2
    go_ret
    exact trimPost_mk H.out.symm
theorem trim_any (s : ByteArray) (w : World) :
  Calls Tryz.prog 219 #[.string s, .string ⟨#[48]⟩] w (TrimPost s.data.toList w) := by
 cases hq : s.data.toList with
 | nil =>
  have hem : s.toList.isEmpty = true := by rw [ByteArray.toList_eq, hq]; rfl
  have H := Hy (show tz [] = s.data.toList by rw [hq]; rfl)
  clear hq
  go_enter Tryz.func219, Tryz.ntmps219
  go_wp2
  go_ret
  exact trimPost_mk H.out
 | cons a l =>
  have hem : s.toList.isEmpty = false := by rw [ByteArray.toList_eq, hq]; rfl
  have HC := Hy (trimb_any s w)
  rw [hq] at HC
  clear hq
  go_enter Tryz.func219, Tryz.ntmps219
  go_wp2_with fail
  refine HC.out.mono ?_
  rintro e w1 ⟨rfl, hw⟩
  obtain rfl := hw.symm
  go_wp2
  go_ret
  exact ⟨rfl, rfl⟩
def okD (l : List UInt8) : Bool := decide (1 <= l.length) && decide (l.length <= 32) && l.all digB
theorem intOk_okD (l : List UInt8) : intOk l = okD (digs l) := rfl
def BoolPost (b : Bool) (w : World) (en : Ending) (w' : World) : Prop := en = .returned (.bool b) /\ Below w.heap.size w w'
theorem boolPost_mk {a b : Bool} {w w' : World} (h : b = a) (hb : Below w.heap.size w w') : BoolPost b w (.returned (.bool a)) w' := by subst h; exact ⟨rfl, hb⟩
theorem okD_bad (s : ByteArray) (p : Nat) (h : p < s.size) (hd : digB s[p] = false) : okD s.data.toList = false := by
 have hl := len_list s
 have : s.data.toList.all digB = false := by
  rw [List.all_eq_false]
  exact ⟨s[p], List.getElem_mem (l := s.data.toList) (n := p) (by omega), by simp [hd]⟩
 simp [okD, this]
theorem isdig_any (s : ByteArray) (w : World) :
  Calls Tryz.prog 218 #[.string s] w (BoolPost (okD s.data.toList) w) := by
 have hl := len_list s
 by_cases h0 : s.size < 1 \/ 32 < s.size
 ·have H := Hy (show okD s.data.toList = false by simp [okD]; omega)
  have h0' : ((s.size : Int) < 1) \/ (1 <= (s.size : Int) /\ (32 : Int) < (s.size : Int)) := by omega
  clear h0 hl
  rcases h0' with h0 | ⟨h0, h1⟩
  all_goals
   go_enter Tryz.func218, Tryz.ntmps218
   go_wp2
   go_ret
   exact boolPost_mk H.out (Below.refl _ _)
 ·have h1 : (1 : Int) <= (s.size : Int) := by omega
  have h2 : (s.size : Int) <= 32 := by omega
  have HB := Hy (okD_bad s)
  have HN := Hy (show 1 <= s.size /\ s.size <= 32 by omega)
  clear h0
  go_enter Tryz.func218, Tryz.ntmps218
  go_wp2
  go_loopw [4] (fun _ wr => ∃ pos : Nat, pos <= s.size /\ wr.heap[w.heap.size]? = some (.stringIter s pos) /\ Below w.heap.size w wr /\ (s.data.toList.take pos).all digB = true) (fun _ wr => s.size - wr.iterPos w.heap.size)
  case atStart => exact ⟨0, by omega, World.iter_heap w s 0, (Below.refl _ _).alloc (Nat.le_refl _) _, rfl⟩
  case round =>
   obtain ⟨pos, hps, hit, hb, hall⟩ := hrel
   have hip := iterPos_of hit
   by_cases hlt : pos < s.size
   ·have hnx : ∀ ty, (Instr.next (.pointer (some ⟨w.heap.size, 0, none⟩)) true ty).run Tryz.prog wr = _ := fun ty => Lib.run_next_any_at wr w.heap.size s pos ty hit hlt
    by_cases ha : s[pos].toNat < 128
    ·rw [decode_ascii s pos hlt ha] at hnx
     simp only [] at hnx
     have hit2 := Lib.iterAt_heap wr _ s pos (pos + 1) hit
     have hb2 := below_iter hb (k := w.heap.size) (Nat.le_refl _) s (pos + 1)
     obtain ⟨W2, hW2⟩ : ∃ W2, wr.iterAt w.heap.size s (pos + 1) = W2 := ⟨_, rfl⟩
     rw [hW2] at hnx hit2 hb2
     have hip2 := iterPos_of hit2
     by_cases hd : digB s[pos] = true
     ·have hall2 : (s.data.toList.take (pos + 1)).all digB = true := by
       rw [take_snoc s pos hlt, List.all_append, hall]; simp [hd]
      have H := Hy (An hit2 (An hb2 (An hip (An hip2 hall2))))
      unfold digB at hd
      simp only [Bool.and_eq_true, decide_eq_true_eq] at hd
      obtain ⟨c, hc⟩ : ∃ c, s[pos].toNat = c := ⟨_, rfl⟩
      rw [hc] at hnx hd ha
      have hd1 : (48 : Int) <= (c : Int) := by omega
      have hd2 : (c : Int) <= 57 := by omega
      clear hit hb hit2 hb2 hip hip2 hW2 hall hall2 hc hd
      go_wp2
      obtain ⟨g1, g2, g3, g4, g5⟩ := H.out
      exact ⟨⟨pos + 1, by omega, g1, g2, g5⟩, by rw [g3, g4]; omega⟩
     ·have hd' : digB s[pos] = false := by simpa using hd
      have H := Hy (An (HB.out pos hlt hd') hb2)
      unfold digB at hd'
      simp only [Bool.and_eq_false_iff, decide_eq_false_iff_not] at hd'
      obtain ⟨c, hc⟩ : ∃ c, s[pos].toNat = c := ⟨_, rfl⟩
      rw [hc] at hnx hd' ha
      have hd2 : (c : Int) < 48 \/ (48 : Int) <= (c : Int) /\ (57 : Int) < (c : Int) := by omega
      clear hit hb hit2 hb2 hip hip2 hW2 hall hc hd hd'
      rcases hd2 with hd2 | ⟨hd2, hd3⟩
      all_goals
       go_wp2
       go_ret
       exact boolPost_mk H.out.1 H.out.2
    ·obtain ⟨mid, m1, m2, m3, m4, m5, m6⟩ := dec_mid s pos hlt (by omega)
     have hb2 := below_iter hb (k := w.heap.size) (Nat.le_refl _) s (pos + (Utf8.decode s pos).2)
     have hd' : digB s[pos] = false := by unfold digB; simp; omega
     have H := Hy (An (HB.out pos hlt hd') hb2)
     obtain ⟨R, hR⟩ : ∃ R, (Utf8.decode s pos).1 = R := ⟨_, rfl⟩
     obtain ⟨K, hK⟩ : ∃ K, (Utf8.decode s pos).2 = K := ⟨_, rfl⟩
     rw [hR, hK] at hnx
     rw [hR] at m6
     rw [hK] at H
     obtain ⟨W2, hW2⟩ : ∃ W2, wr.iterAt w.heap.size s (pos + K) = W2 := ⟨_, rfl⟩
     rw [hW2] at hnx H
     have hd2 : (48 : Int) <= (R : Int) := by omega
     have hd3 : (57 : Int) < (R : Int) := by omega
     clear hit hb hb2 hip hW2 hall hR hK m1 m2 m3 m4 m5 m6 ha hd'
     go_wp2
     go_ret
     exact boolPost_mk H.out.1 H.out.2
   ·have hnx : ∀ ty, (Instr.next (.pointer (some ⟨w.heap.size, 0, none⟩)) true ty).run Tryz.prog wr = _ := fun ty => Lib.run_next_end_at wr w.heap.size s pos ty hit hlt
    obtain rfl : pos = s.size := by omega
    rw [List.take_of_length_le (by omega)] at hall
    have H := Hy (An (show okD s.data.toList = true by have := HN.out; simp only [okD, hall, Bool.and_true, Bool.and_eq_true, decide_eq_true_eq]; omega) hb)
    clear hit hb hip hall
    go_wp2
    go_ret
    exact boolPost_mk H.out.1 H.out.2
theorem less_ltB : ∀ (x y : List UInt8), Op.bytesLess x y = ltB x y
 | x, [] => by cases x <;> simp [Op.bytesLess, ltB]
 | [], _ :: _ => by simp [Op.bytesLess, ltB]
 | a :: x, b :: y => by
  rw [Op.bytesLess, less_ltB x y, ltB, ltB, Bool.eq_iff_iff]
  simp only [Bool.or_eq_true, Bool.and_eq_true, decide_eq_true_eq, beq_iff_eq, List.cons_lt_cons_iff]
theorem intL_bad (l : List UInt8) (h : okD (digs l) = false) : intL l = ([], false) := by rw [intL, intOk_okD, if_pos h]
theorem okD_ne (l : List UInt8) (h : okD l = true) : l ≠ [] /\ l.length <= 32 := by
 simp only [okD, Bool.and_eq_true, decide_eq_true_eq] at h
 refine ⟨?_, h.1.2⟩
 rintro rfl
 simp at h
theorem intL_zero (l : List UInt8) (h : okD (digs l) = true) (ht : tz (digs l) = []) : intL l = ([48], true) := by
 rw [intL, intOk_okD, if_neg (by simp [h]), strip_tz _ (okD_ne _ h).1, if_pos ht, if_pos rfl]
theorem intL_num (l : List UInt8) (h : okD (digs l) = true) (ht : tz (digs l) ≠ []) : intL l = ((if hasM l = true then [45] else []) ++ tz (digs l), true) := by
 rw [intL, intOk_okD, if_neg (by simp [h]), strip_tz _ (okD_ne _ h).1, if_neg ht, if_neg (tz_not _)]
 by_cases hm : l.head? = some 45 <;> simp [hasM, hm]
def IntPost (l : List UInt8) (w : World) (en : Ending) (w' : World) : Prop := en = .returned (.tuple #[.string ⟨(intL l).1.toArray⟩, .bool (intL l).2]) /\ Below w.heap.size w w'
theorem intPost_mk {l a : List UInt8} {b : Bool} {w w' : World} (h : intL l = (a, b)) (hb : Below w.heap.size w w') : IntPost l w (.returned (.tuple #[.string ⟨a.toArray⟩, .bool b])) w' := by
 refine ⟨?_, hb⟩
 rw [h]
theorem int_any (s : ByteArray) (w : World) :
  Calls Tryz.prog 180 #[.string s] w (IntPost s.data.toList w) := by
 obtain ⟨L, hL⟩ : ∃ L, s.data.toList = L := ⟨_, rfl⟩
 have HC := Hy (cut_any s)
 rw [hL] at HC ⊢
 obtain ⟨D, hD⟩ : ∃ D, digs L = D := ⟨_, rfl⟩
 obtain ⟨m, hm⟩ : ∃ m, hasM L = m := ⟨_, rfl⟩
 obtain ⟨T, hT⟩ : ∃ T, tz D = T := ⟨_, rfl⟩
 have HC1 := Hy (isdig_any ⟨D.toArray⟩)
 have HC2 := Hy (trim_any ⟨D.toArray⟩)
 have e1 : CutPost L = fun w en w' => en = .returned (.tuple #[.string ⟨D.toArray⟩, .bool m]) /\ w' = w := by unfold CutPost; rw [hD, hm]
 rw [e1] at HC
 by_cases hok : okD D = true
 ·have hne := okD_ne D hok
  have e2 : BoolPost (okD D) = fun w en w' => en = .returned (.bool true) /\ Below w.heap.size w w' := by unfold BoolPost; rw [hok]
  change Hid (∀ w, Calls Tryz.prog _ _ w (BoolPost (okD D) w)) at HC1
  rw [e2] at HC1
  have e3 : TrimPost D = fun w en w' => en = .returned (.string ⟨T.toArray⟩) /\ w' = w := by unfold TrimPost; rw [hT]
  change Hid (∀ w, Calls Tryz.prog _ _ w (TrimPost D w)) at HC2
  rw [e3] at HC2
  have hTl : T.length <= 32 := by rw [<- hT]; exact Nat.le_trans (tz_len D) hne.2
  by_cases h0 : T = []
  ·have HR := Hy (intL_zero L (by rw [hD]; exact hok) (by rw [hD, hT]; exact h0))
   subst h0
   clear hL hD hm hT e1 e2 e3 hok hne
   go_enter Tryz.func180, Tryz.ntmps180
   go_wp2_with fail
   refine (HC.out _).mono ?_
   rintro e w1 ⟨rfl, hw⟩
   obtain rfl := hw.symm
   go_wp2_with fail
   refine (HC1.out _).mono ?_
   rintro e w2 ⟨rfl, hb2⟩
   go_wp2_with fail
   refine (HC2.out _).mono ?_
   rintro e w3 ⟨rfl, hw⟩
   obtain rfl := hw.symm
   go_wp2
   go_ret2
   exact intPost_mk HR.out hb2
  ·have hem : T.isEmpty = false := by cases T with
    | nil => exact absurd rfl h0
    | cons a l => rfl
   have HR := Hy (intL_num L (by rw [hD]; exact hok) (by rw [hD, hT]; exact h0))
   rw [hD, hT, hm] at HR
   clear hL hD hm hT e1 e2 e3 hok hne h0
   cases m
   ·have HR2 := Hy (show intL L = (T, true) by rw [HR.out]; simp)
    go_enter Tryz.func180, Tryz.ntmps180
    go_wp2_with fail
    refine (HC.out _).mono ?_
    rintro e w1 ⟨rfl, hw⟩
    obtain rfl := hw.symm
    go_wp2_with fail
    refine (HC1.out _).mono ?_
    rintro e w2 ⟨rfl, hb2⟩
    go_wp2_with fail
    refine (HC2.out _).mono ?_
    rintro e w3 ⟨rfl, hw⟩
    obtain rfl := hw.symm
    go_wp2
    go_ret2
    exact intPost_mk HR2.out hb2
   ·have HR2 := Hy (show intL L = (45 :: T, true) by rw [HR.out]; simp)
    go_enter Tryz.func180, Tryz.ntmps180
    go_wp2_with fail
    refine (HC.out _).mono ?_
    rintro e w1 ⟨rfl, hw⟩
    obtain rfl := hw.symm
    go_wp2_with fail
    refine (HC1.out _).mono ?_
    rintro e w2 ⟨rfl, hb2⟩
    go_wp2_with fail
    refine (HC2.out _).mono ?_
    rintro e w3 ⟨rfl, hw⟩
    obtain rfl := hw.symm
    go_wp2
    go_ret2
    rw [cat_one]
    exact intPost_mk HR2.out hb2
 ·have hok' : okD D = false := by simpa using hok
  have e2 : BoolPost (okD D) = fun w en w' => en = .returned (.bool false) /\ Below w.heap.size w w' := by unfold BoolPost; rw [hok']
  change Hid (∀ w, Calls Tryz.prog _ _ w (BoolPost (okD D) w)) at HC1
  rw [e2] at HC1
  have HR := Hy (intL_bad L (by rw [hD]; exact hok'))
  clear hL hD hm hT e1 e2 hok hok' HC2
  go_enter Tryz.func180, Tryz.ntmps180
  go_wp2_with fail
  refine (HC.out _).mono ?_
  rintro e w1 ⟨rfl, hw⟩
  obtain rfl := hw.symm
  go_wp2_with fail
  refine (HC1.out _).mono ?_
  rintro e w2 ⟨rfl, hb2⟩
  go_wp2
  go_ret2
  exact intPost_mk (a := []) HR.out hb2
end Go.Proofs.YtpkbgkoocijegaaGreatDoor
