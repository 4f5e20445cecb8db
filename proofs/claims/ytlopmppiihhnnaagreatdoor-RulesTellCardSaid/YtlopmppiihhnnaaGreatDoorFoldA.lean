/- The code's Lower hands back small letters for great ones, for every text. -/
import Derived.Test.YtlopmppiihhnnaaGreatDoorProg
import Derived.WalkKit
import Derived.WalkMore
import Derived.WalkLawsBesides
import Derived.Lib.Hide
import Derived.Outline
import Derived.Test.YtlopmppiihhnnaaGreatDoorFoldM
import Derived.Test.YtlopmppiihhnnaaGreatDoorUtf
namespace Go.Proofs.YtlopmppiihhnnaaGreatDoor
open Go Go.RowKit Go.Proofs.BerK Go.Proofs.MemK Go.Proofs.UtfK

theorem low_high (l : List UInt8) (h : ∀ b ∈ l, 128 ≤ b.toNat) : lowL l = l := by
  unfold lowL
  rw [List.map_congr_left (g := id) (fun b hb => ?_), List.map_id]
  have := h b hb
  apply UInt8.toNat_inj.1
  rw [low1_toNat, if_neg (by omega)]; rfl
/-- What stands in the row when the first p bytes are done. -/
def lowAt (s : ByteArray) (p : Nat) : List UInt8 := lowL (s.data.toList.take p) ++ s.data.toList.drop p
theorem lowAt_0 (s : ByteArray) : lowAt s 0 = s.data.toList := by simp [lowAt, lowL]
theorem lowAt_end (s : ByteArray) : lowAt s s.size = lowL s.data.toList := by
  unfold lowAt
  rw [List.take_of_length_le (by rw [len_list]; exact Nat.le_refl _), List.drop_of_length_le (by rw [len_list]; exact Nat.le_refl _), List.append_nil]
theorem lowAt_len (s : ByteArray) (p : Nat) : (lowAt s p).length = s.size := by
  unfold lowAt
  rw [List.length_append, lowL_length, ← List.length_append, List.take_append_drop, len_list]
theorem lowAt_far (s : ByteArray) (p K : Nat) (mid : List UInt8) (h1 : s.data.toList.take (p + K) = s.data.toList.take p ++ mid) (h2 : s.data.toList.drop p = mid ++ s.data.toList.drop (p + K)) (h : ∀ b ∈ mid, 128 ≤ b.toNat) : lowAt s (p + K) = lowAt s p := by
  have e : lowL (s.data.toList.take p ++ mid) = lowL (s.data.toList.take p) ++ mid := by
    conv => rhs; rw [← low_high mid h]
    simp [lowL]
  unfold lowAt
  rw [h1, h2, e, List.append_assoc]
theorem lowAt_cut (s : ByteArray) (p : Nat) (hp : p < s.size) : lowAt s p = lowL (s.data.toList.take p) ++ s[p] :: s.data.toList.drop (p + 1) := by
  have hl := len_list s
  rw [lowAt, drop_at s.data.toList p (by omega)]; rfl
theorem lowAt_get (s : ByteArray) (p : Nat) (hp : p < s.size) : (lowAt s p)[p]? = some s[p] := by
  have hk : (lowL (s.data.toList.take p)).length = p := by rw [lowL_length, List.length_take, len_list]; omega
  rw [lowAt_cut s p hp, List.getElem?_append_right (by omega), hk, Nat.sub_self]; rfl
theorem lowAt_step (s : ByteArray) (p : Nat) (hp : p < s.size) : lowAt s (p + 1) = (lowAt s p).set p (low1 s[p]) := by
  have hk : (lowL (s.data.toList.take p)).length = p := by rw [lowL_length, List.length_take, len_list]; omega
  have hl := len_list s
  unfold lowAt
  rw [List.set_append_right _ _ (by omega), hk, Nat.sub_self, drop_at s.data.toList p (by omega), List.set_cons_zero, take_snoc s p hp]
  simp [lowL]
theorem lowAt_same (s : ByteArray) (p : Nat) (hp : p < s.size) (h : low1 s[p] = s[p]) : lowAt s (p + 1) = lowAt s p := by
  have hk : (lowL (s.data.toList.take p)).length = p := by rw [lowL_length, List.length_take, len_list]; omega
  rw [lowAt_step s p hp, h, lowAt_cut s p hp, List.set_append_right _ _ (by omega), hk, Nat.sub_self, List.set_cons_zero]

/-- What Lower and its kin hand back. -/
def StrPost (l : List UInt8) (w : World) (en : Ending) (w' : World) : Prop := en = .returned (.string ⟨l.toArray⟩) ∧ Below w.heap.size w w'
theorem strPost_mk {l a : List UInt8} {w w' : World} (h : l = a) (hb : Below w.heap.size w w') : StrPost l w (.returned (.string ⟨a.toArray⟩)) w' := by subst h; exact ⟨rfl, hb⟩

set_option maxHeartbeats 1600000 in
set_option maxRecDepth 100000 in
theorem lower_any (s : ByteArray) (w : World) :
    Calls Tryz.prog 16 #[.string s] w (StrPost (lowL s.data.toList) w) := by
  have hcv := run_bytes_of_string (P := Tryz.prog) w 9 53 5 s Tryz.underlying9 Tryz.underlying53 Tryz.underlying5
  have hR := brow_new w w.drew s 5 rfl
  have hB0 : Below w.heap.size w (w.drew.alloc (brow w s 5)) := (Below.refl _ w).drew.alloc (Nat.le_refl _) _
  have hs0 : (w.drew.alloc (brow w s 5)).heap.size = w.heap.size + 1 := by simp
  change (convert 9 53 (.string s)).run Tryz.prog w = .ok _ (w.drew.alloc (brow w s 5)) at hcv
  obtain ⟨W0, hW0⟩ : ∃ W0, w.drew.alloc (brow w s 5) = W0 := ⟨_, rfl⟩
  obtain ⟨cap, hcap⟩ : ∃ c, grownCap w s.size 0 5 = c := ⟨_, rfl⟩
  rw [hW0, hcap] at hcv
  rw [hW0] at hR hB0 hs0
  clear hW0 hcap
  have HR := Lib.hid hR
  clear hR
  go_enter Tryz.func16, Tryz.ntmps16
  go_wp2
  go_loopw [4] (fun _ wr => ∃ pos : Nat, pos ≤ s.size ∧ wr.heap[w.heap.size + 1]? = some (.stringIter s pos) ∧ BRow wr w.heap.size (lowAt s pos) ∧ Below w.heap.size w wr) (fun _ wr => s.size - wr.iterPos (w.heap.size + 1))
  case atStart =>
    refine ⟨0, by omega, ?_, ?_, ?_⟩
    · have := World.iter_heap W0 s 0
      rw [hs0] at this; exact this
    · rw [lowAt_0]; exact brow_alloc HR.out _
    · exact hB0.alloc (by omega) _
  case round =>
    obtain ⟨pos, hps, hit, hrow, hb⟩ := hrel
    have hip := iterPos_of hit
    by_cases hlt : pos < s.size
    · have hnx : ∀ ty, (Instr.next (.pointer (some ⟨w.heap.size + 1, 0, none⟩)) true ty).run Tryz.prog wr = _ := fun ty => Lib.run_next_any_at wr (w.heap.size + 1) s pos ty hit hlt
      have hl := len_list s
      by_cases ha : s[pos].toNat < 128
      · rw [decode_ascii s pos hlt ha] at hnx
        simp only [] at hnx
        have hit2 := Lib.iterAt_heap wr _ s pos (pos + 1) hit
        have hrow2 := brow_iter hrow (k := w.heap.size + 1) (by omega) s (pos + 1)
        have hb2 := below_iter hb (k := w.heap.size + 1) (by omega) s (pos + 1)
        obtain ⟨W2, hW2⟩ : ∃ W2, wr.iterAt (w.heap.size + 1) s (pos + 1) = W2 := ⟨_, rfl⟩
        rw [hW2] at hnx hit2 hrow2 hb2
        have hip2 := iterPos_of hit2
        have hstep := lowAt_step s pos hlt
        by_cases hu : 65 ≤ s[pos].toNat ∧ s[pos].toNat ≤ 90
        · have hv : ((low1 s[pos]).toNat : Int) = (s[pos].toNat : Int) - 65 + 97 := by rw [low1_toNat, if_pos hu]; omega
          have hcell := hrow2.2.1 pos (by rw [lowAt_len]; exact hlt)
          have hfz := hrow2.2.2 pos (by rw [lowAt_len]; exact hlt)
          obtain ⟨x, hx⟩ : ∃ x : UInt8, (lowAt s pos)[pos]'(by rw [lowAt_len]; exact hlt) = x := ⟨_, rfl⟩
          rw [hx] at hcell
          obtain ⟨c, hc⟩ : ∃ c, s[pos].toNat = c := ⟨_, rfl⟩
          rw [hc] at hnx hu ha hv
          have hrow3 := brow_set hrow2 pos (low1 s[pos])
          rw [hv, ← hstep] at hrow3
          have hit3 := (Below.heap_setCell W2 ⟨w.heap.size, pos, none⟩ (.int .u8 ((c : Int) - 65 + 97)) (w.heap.size + 1) (by simp)).trans hit2
          have hb3 := hb2.setCell (p := ⟨w.heap.size, pos, none⟩) (Nat.le_refl _) (.int .u8 ((c : Int) - 65 + 97))
          have hip3 := iterPos_of hit3
          have H := Lib.hid (And.intro hrow3 (And.intro hit3 (And.intro hb3 (And.intro hip hip3))))
          obtain ⟨hu1, hu2⟩ := hu
          clear hrow hit hrow2 hit2 hb hb2 hstep hip hip2 hv hW2 hx hc hrow3 hit3 hb3 hip3
          have hu1' : (65 : Int) ≤ (c : Int) := by omega
          have hu2' : (c : Int) ≤ 90 := by omega
          go_wp2
          obtain ⟨h1, h2, h3, h4, h5⟩ := H.out
          exact ⟨⟨pos + 1, by omega, h2, h1, h3⟩, by rw [h4, h5]; omega⟩
        · have hsame := lowAt_same s pos hlt (by apply UInt8.toNat_inj.1; rw [low1_toNat, if_neg hu])
          rw [← hsame] at hrow2
          have H := Lib.hid (And.intro hrow2 (And.intro hit2 (And.intro hb2 (And.intro hip hip2))))
          obtain ⟨c, hc⟩ : ∃ c, s[pos].toNat = c := ⟨_, rfl⟩
          rw [hc] at hnx hu ha
          have hu' : (c : Int) < 65 ∨ (90 : Int) < (c : Int) := by omega
          clear hrow hit hrow2 hit2 hb hb2 hstep hip hip2 hW2 hc hsame hu
          rcases hu' with hu' | hu'
          all_goals
            go_wp2
            obtain ⟨h1, h2, h3, h4, h5⟩ := H.out
            exact ⟨⟨pos + 1, by omega, h2, h1, h3⟩, by rw [h4, h5]; omega⟩
      · obtain ⟨mid, m1, m2, m3, m4, m5, m6⟩ := dec_mid s pos hlt (by omega)
        have hfar := lowAt_far s pos _ mid m1 m2 m3
        obtain ⟨R, hR⟩ : ∃ R, (Utf8.decode s pos).1 = R := ⟨_, rfl⟩
        obtain ⟨K, hK⟩ : ∃ K, (Utf8.decode s pos).2 = K := ⟨_, rfl⟩
        rw [hR, hK] at hnx
        rw [hR] at m6
        rw [hK] at m4 m5 hfar
        have hit2 := Lib.iterAt_heap wr _ s pos (pos + K) hit
        have hrow2 := brow_iter hrow (k := w.heap.size + 1) (by omega) s (pos + K)
        have hb2 := below_iter hb (k := w.heap.size + 1) (by omega) s (pos + K)
        obtain ⟨W2, hW2⟩ : ∃ W2, wr.iterAt (w.heap.size + 1) s (pos + K) = W2 := ⟨_, rfl⟩
        rw [hW2] at hnx hit2 hrow2 hb2
        have hip2 := iterPos_of hit2
        rw [← hfar] at hrow2
        have H := Lib.hid (And.intro hrow2 (And.intro hit2 (And.intro hb2 (And.intro hip hip2))))
        have hu' : (90 : Int) < (R : Int) := by omega
        clear hrow hit hrow2 hit2 hb hb2 hip hip2 hW2 hR hK m1 m2 m3 m6 hfar ha
        go_wp2
        obtain ⟨h1, h2, h3, h4, h5⟩ := H.out
        exact ⟨⟨pos + K, by omega, h2, h1, h3⟩, by rw [h4, h5]; omega⟩
    · have hnx : ∀ ty, (Instr.next (.pointer (some ⟨w.heap.size + 1, 0, none⟩)) true ty).run Tryz.prog wr = _ := fun ty => Lib.run_next_end_at wr (w.heap.size + 1) s pos ty hit hlt
      obtain rfl : pos = s.size := by omega
      rw [lowAt_end] at hrow
      have hc := conv_brow (P := Tryz.prog) (src := 53) (dst := 9) (n := s.size) (cap := cap) Tryz.underlying53 Tryz.underlying5 Tryz.underlying9 hrow (by rw [lowL_length, len_list])
      have H := Lib.hid hb
      clear hrow hit hb hip
      go_wp2
      go_ret
      exact ⟨rfl, H.out⟩
end Go.Proofs.YtlopmppiihhnnaaGreatDoor
