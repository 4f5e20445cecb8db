/- The code's Seq and the document's Seq put texts one behind the other, for at most 20 texts that are together no longer than a body may be. -/
import Derived.Test.YtlnfbjgadcifkaaDoorTreeD
import Derived.Laws.BytesArg
namespace Go.Proofs.YtlnfbjgadcifkaaDoor
open Go.RowKit Go.Proofs.BerM Go.Proofs.BerK Go.Proofs.MemK

/-- Seq's answer. -/
def SeqPost (l : List UInt8) (w : World) (en : Ending) (w' : World) : Prop :=
  en = .returned (.tuple #[.string ⟨(putL 48 l).toArray⟩, .int .i64 0]) ∧ Below w.heap.size w w'
theorem tag48 : tagB 48 = true := by decide

set_option maxHeartbeats 1600000 in
set_option maxRecDepth 100000 in
theorem seq_any (l : List (List UInt8)) (v : Value) (w : World) (hv : StrAt w v l) (hl : l.length ≤ 20) (hs : l.flatten.length ≤ 65536) :
    Calls Tryd.prog 38 #[v] w (SeqPost l.flatten w) := by
  have HPut := Lib.hid fun w => put_c 48 ⟨l.flatten.toArray⟩ (by unfold maxLen; show l.flatten.length ≤ _; omega) (putL 48 l.flatten) 0 rfl (putE_ok tag48 hs) w
  obtain ⟨i0, hi, hz0, hz1, hz2⟩ := info_parts Tryd.info5
  have HI := Lib.hid hi
  have HZ0 := Lib.hid hz0
  have HZ1 := Lib.hid hz1
  have HZ2 := Lib.hid hz2
  clear hi hz0 hz1 hz2
  rcases hv with ⟨rfl, a, c, rfl⟩ | ⟨h0, g, o, c, rfl, hg, hq⟩
  · have hcv := run_convert_bytes_nil (P := Tryd.prog) (w := w) 84 5 Tryd.underlying84 Tryd.underlying5 0 0 9 Tryd.underlying9
    go_enter Tryd.func38, Tryd.ntmps38
    go_wp2
    go_loop [4, 9] (fun v4 v9 => v4 = .slice none 0 0 ∧ v9 = .int .i64 0) (fun _ _ => 0)
    case atStart => exact ⟨rfl, rfl⟩
    case round =>
      obtain ⟨rfl, rfl⟩ := hrel
      go_wp2_with fail
      refine (HPut.out _).mono ?_
      rintro en w1 ⟨rfl, hb1⟩
      go_wp2
      go_ret2
      exact ⟨rfl, hb1⟩
  · have HG := Lib.hid hg
    have HQ := Lib.hid hq
    clear hg hq
    go_enter Tryd.func38, Tryd.ntmps38
    go_wp2
    go_loopw [4, 9] (fun v4 v9 wr => ∃ i : Nat, v9 = .int .i64 i ∧ i ≤ l.length ∧ wr.ownsRow w.heap.size 5 1 v4 (l.take i).flatten.length (bc (l.take i).flatten) ∧ Below w.heap.size w wr) (fun _ v9 _ => l.length - (intOf v9).toNat)
    case atStart => exact ⟨0, rfl, Nat.zero_le _, World.ownsRow_nil _ _ _ _, Below.refl _ _⟩
    case round =>
      obtain ⟨i, rfl, hi, hown, hbel⟩ := hrel
      by_cases hlt : i < l.length
      · have hcell := (hbel.cell (p := ⟨g, o + i, none⟩) HG.out).trans (HQ.out i hlt)
        have hft := flat_take l i hlt
        have hfl := flat_take_le l (i + 1)
        rw [hft, List.length_append] at hfl
        have HFT := Lib.hid hft
        obtain ⟨x, hx⟩ : ∃ x, x = l[i] := ⟨_, rfl⟩
        rw [← hx] at hcell hfl HFT
        obtain ⟨K, hK⟩ : ∃ K, K = (l.take i).flatten.length := ⟨_, rfl⟩
        rw [← hK] at hown hfl
        have HK := Lib.hid hK
        clear hx hft hK
        obtain ⟨pa, pc, rfl⟩ := ownsRow_slice hown
        have hKb : K + x.length ≤ 65536 := by omega
        clear hfl
        have hi0 : (0 : Int) ≤ i := by omega
        have hi1 : (i : Int) < (l.length : Int) := by omega
        go_wp2_with (at_builtin; (refine Lib.wpList_append_own_string (w := wr) rfl (.tmp 19) (.tmp 20) 84 9 rfl w.heap.size 5 i0 Tryd.underlying84 Tryd.underlying9 HI.out HZ0.out HZ1.out HZ2.out (.slice pa K pc) _ _ rfl hown ⟨x.toArray⟩ rfl ?e1 ?e2 ?e3 ?_))
        case e1 => unfold maxLen; show K + x.length ≤ _; omega
        case e2 => show K + x.length ≤ _; omega
        case e3 => exact hbel.size
        intro v4 w4 hown4 hg4 h44
        clear h44
        have hb4 : Below w.heap.size w w4 := below_push hown (Nat.le_refl _) hbel.size hg4 hbel
        have e5 : bc (l.take i).flatten ++ Lib.strCells ⟨x.toArray⟩ = bc (l.take (i + 1)).flatten := by
          rw [HFT.out, bc_append]; rfl
        rw [e5] at hown4
        have e6 : K + x.length = (l.take (i + 1)).flatten.length := by
          rw [HFT.out, List.length_append, ← HK.out]
        rw [e6] at hown4
        have HO := Lib.hid hown4
        clear hown4 hg4 hown e5 e6 hcell
        go_wp2
        go_roundw
        case rel => exact ⟨i + 1, by go_num, by omega, HO.out, hb4⟩
        case measure => simp [intOf]; omega
      · have hi' : i = l.length := by omega
        subst hi'
        rw [List.take_length] at hown
        have hcv := conv_own' (P := Tryd.prog) (src := 84) (dst := 9) Tryd.underlying84 Tryd.underlying5 Tryd.underlying9 hown
        clear hown
        go_wp2_with fail
        refine (HPut.out _).mono ?_
        rintro en w1 ⟨rfl, hb1⟩
        go_wp2
        go_ret2
        exact ⟨rfl, hbel.trans (hb1.mono hbel.size)⟩

theorem cat_2 (a b : List UInt8) : ByteArray.mk a.toArray ++ ByteArray.mk b.toArray = ByteArray.mk (a ++ b).toArray := ByteArray.mk_append_mk a b

end Go.Proofs.YtlnfbjgadcifkaaDoor
