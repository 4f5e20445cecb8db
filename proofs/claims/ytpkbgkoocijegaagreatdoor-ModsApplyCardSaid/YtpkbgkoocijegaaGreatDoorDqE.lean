/- The texts of a name's pairs, for every text. strings.Cut at an equals sign, strings.Trim and TrimLeft at a blank, for every text. -/
import Derived.Test.YtpkbgkoocijegaaGreatDoorDqB
import Derived.Test.YtpkbgkoocijegaaGreatDoorPlnA
import Derived.Test.YtpkbgkoocijegaaGreatDoorGenB
import Derived.Test.YtpkbgkoocijegaaGreatDoorDqA
import Derived.BigQuiet
set_option linter.unusedVariables false
set_option linter.unusedSimpArgs false
set_option maxHeartbeats 25600000
set_option maxRecDepth 100000
namespace Go.Proofs.YtpkbgkoocijegaaGreatDoor
open Go Go.RowKit Go.Proofs.BerK Go.Proofs.MemK Go.Proofs.UtfK
theorem Tryz.dninfo9 : (Tryz.prog.info? 9).map (fun i => (i.zero, i.size, i.bytes)) = some (some (.string ByteArray.empty), 1, 16) := by kernel_rfl
theorem Tryz.dninfo43 : (Tryz.prog.info? 43).map (fun i => (i.zero, i.size, i.bytes)) = some (some (.slice none 0 0), 1, 24) := by kernel_rfl
theorem sc_snoc (p : List (List UInt8)) (x : List UInt8) : sc (p ++ [x]) = sc p ++ [.string ⟨x.toArray⟩] := by simp [sc]
theorem ext_word (s : ByteArray) (f p : Nat) : s.extract f p = ⟨((s.data.toList.drop f).take (p - f)).toArray⟩ := by rw [<- word_at, mk_list]
def curL (s : ByteArray) (f p : Nat) : List UInt8 := (s.data.toList.drop f).take (p - f)
theorem cur_nil (s : ByteArray) (p : Nat) : curL s p p = [] := by simp [curL]
theorem cur_more (s : ByteArray) (f p n : Nat) (h : f <= p) : curL s f (p + n) = curL s f p ++ (s.data.toList.drop p).take n := by
 unfold curL
 rw [show p + n - f = (p - f) + n by omega, List.take_add, List.drop_drop, show f + (p - f) = p by omega]
theorem cur_end (s : ByteArray) (f p : Nat) (h : s.size <= p) : curL s f p = curL s f s.size := by
 have hl := len_list s
 unfold curL
 by_cases hf : f <= s.size
 ·rw [List.take_of_length_le (by simp <;> omega), List.take_of_length_le (by simp <;> omega)]
 ·rw [List.drop_of_length_le (by omega)]; simp
def stT (s : ByteArray) (part : List (List UInt8)) (f p : Nat) : List (List (List UInt8)) := splT part (curL s f p) (splG (s.data.toList.drop p))
theorem stT_slash (s : ByteArray) (part : List (List UInt8)) (f p : Nat) (hf : f <= p) (h : p < s.size) (hc : s[p] = 92) : stT s part f p = stT s part f (p + 2) := by
 have hl := len_list s
 have hd := drop_at s.data.toList p (by omega)
 rw [at_list s p h, hc] at hd
 unfold stT splT
 rw [cur_more s f p 2 hf, hd, splG_slash, <- hd, List.drop_drop]
 simp
theorem stT_plus (s : ByteArray) (part : List (List UInt8)) (f p : Nat) (h : p < s.size) (hc : s[p] = 43) : stT s part f p = stT s (part ++ [curL s f p]) (p + 1) (p + 1) := by
 have hl := len_list s
 have hd := drop_at s.data.toList p (by omega)
 rw [at_list s p h, hc] at hd
 unfold stT splT
 rw [hd, splG_plus, cur_nil]
 simp
theorem stT_comma (s : ByteArray) (part : List (List UInt8)) (f p : Nat) (h : p < s.size) (hc : s[p] = 44) : stT s part f p = (part ++ [curL s f p]) :: stT s [] (p + 1) (p + 1) := by
 have hl := len_list s
 have hd := drop_at s.data.toList p (by omega)
 rw [at_list s p h, hc] at hd
 unfold stT splT
 rw [hd, splG_comma, cur_nil]
 simp
theorem stT_else (s : ByteArray) (part : List (List UInt8)) (f p : Nat) (hf : f <= p) (h : p < s.size) (h1 : s[p] ≠ 92) (h2 : s[p] ≠ 43) (h3 : s[p] ≠ 44) : stT s part f p = stT s part f (p + 1) := by
 have hl := len_list s
 have hd := drop_at s.data.toList p (by omega)
 rw [at_list s p h] at hd
 unfold stT splT
 rw [cur_more s f p 1 hf, hd, splG_else _ _ h1 h2 h3]
 simp
theorem stT_end (s : ByteArray) (part : List (List UInt8)) (f p : Nat) (h : s.size <= p) : stT s part f p = [part ++ [curL s f s.size]] := by
 have hl := len_list s
 unfold stT splT
 rw [cur_end s f p h, List.drop_of_length_le (by omega)]
 simp [splG]
theorem stT_start (s : ByteArray) : stT s [] 0 0 = splL s.data.toList := by
 unfold stT splL
 rw [cur_nil, List.drop_zero]
def SplPost (e2 e : TypeId) (ps : List (List (List UInt8))) (w : World) (en : Ending) (w' : World) : Prop :=
 ∃ v vs, en = .returned v /\ GridV w' w.heap.size e2 e v vs ps /\ Below w.heap.size w w'
theorem splPost_mk {e2 e : TypeId} {ps : List (List (List UInt8))} {w w' : World} {v : Value} {vs : List Value} (h : GridV w' w.heap.size e2 e v vs ps) (hb : Below w.heap.size w w') : SplPost e2 e ps w (.returned v) w' := ⟨v, vs, rfl, h, hb⟩
theorem gridV_part {w w' : World} {B : Nat} {e2 e : TypeId} {v pv : Value} {vs : List Value} {ps : List (List (List UInt8))} (h : GridV w B e2 e v vs ps) (hc : Chg (fun k => some k = pv.ownBlock) w w') (h1 : Apart pv v) (h2 : ∀ u ∈ vs, Apart pv u) : GridV w' B e2 e v vs ps :=
 gridV_chg h hc (fun k hk => ⟨h1 k hk.symm, fun u hu => h2 u hu k hk.symm⟩)
theorem dsplit_any (s : ByteArray) (hm : s.size <= 4096) (w : World) :
  Calls Tryz.prog 95 #[.string s] w (SplPost 43 9 (splL s.data.toList) w) := by
 have HE := Hy (ext_word s)
 go_enter Tryz.func95, Tryz.ntmps95
 go_wp2
 go_step3
 go_wp2
 go_step3
 go_wp2
 go_loopw [3, 4] (fun v fr wr => ∃ (vs : List Value) (ps : List (List (List UInt8))) (f : Nat), f <= s.size /\ fr = .int .i64 (f : Nat) /\ GridV wr w.heap.size 43 9 v vs ps /\ Below w.heap.size w wr /\ ps.length <= f /\ ps ++ stT s [] f f = splL s.data.toList) (fun _ fr _ => s.size + 1 - (intOf fr).toNat)
 case atStart => exact ⟨[], [], 0, by omega, rfl, gridV_nil _ _ _ _, Below.refl _ _, by simp, by rw [stT_start]; rfl⟩
 case round =>
  obtain ⟨vs, ps, f0, hf0, rfl, hgrid, hb, hlen, hinv⟩ := hrel
  obtain ⟨v0, hv0⟩ : ∃ v0, u3 = v0 := ⟨_, rfl⟩
  rw [hv0] at hgrid
  have HG0 := Hy (An hgrid (An hb (An hlen hinv)))
  clear hgrid hb hlen hinv
  go_wp2
  go_loopw [3, 4, 5, 6] (fun v fr pv iv wr => ∃ (f i : Nat) (part : List (List UInt8)), f <= i /\ f <= s.size /\ i <= s.size + 1 /\ f0 <= f /\ v = v0 /\ (iv = .int .i64 (i : Nat) /\ fr = .int .i64 (f : Nat)) /\ wr.ownsRow w.heap.size 9 1 pv part.length (sc part) /\ Apart pv v0 /\ (∀ u ∈ vs, Apart pv u) /\
   GridV wr w.heap.size 43 9 v0 vs ps /\ Below w.heap.size w wr /\ ps.length + part.length <= f /\ ps ++ stT s part f i = splL s.data.toList) (fun _ _ _ iv _ => s.size + 1 - (intOf iv).toNat)
  case atStart => exact ⟨f0, f0, [], by omega, hf0, by omega, by omega, hv0, ⟨rfl, rfl⟩, World.ownsRow_nil _ _ _ _, apart_nil' _, fun u _ => apart_nil' u, HG0.out.1, HG0.out.2.1, by have := HG0.out.2.2.1; simpa using this, HG0.out.2.2.2⟩
  case round =>
   obtain ⟨f, i, part, hfi, hf, hi, h00, hv3, ⟨rfl, rfl⟩, hown, hap, hap2, hgrid, hb, hlen, hinv⟩ := hrel
   subst hv3
   obtain ⟨va, vc, hv⟩ := ownsRow_slice hgrid.2.1
   obtain ⟨pa, pc, hp⟩ := ownsRow_slice hown
   by_cases hlt : i < s.size
   ·have hil : (i : Int) < (s.size : Int) := by omega
    have h8 : s[i].toNat < 256 := s[i].toNat_lt
    have hfi' : (f : Int) <= (i : Int) := by omega
    have his : (i : Int) <= (s.size : Int) := by omega
    have hex := HE.out f i
    change s.extract f i = ⟨(curL s f i).toArray⟩ at hex
    have H := Hy (An hfi (An hf (An hi (An h00 (An hv (An hp (An hown (An hap (An hap2 (An hgrid (An hb (An hlen hinv))))))))))))
    have HC := Hy (An (stT_slash s part f i hfi hlt) (An (stT_plus s part f i hlt) (An (stT_comma s part f i hlt) (stT_else s part f i hfi hlt))))
    clear hown hap hap2 hgrid hb hlen hinv hv hp
    obtain ⟨c, hc⟩ : ∃ c, s[i] = c := ⟨_, rfl⟩
    rw [hc] at h8 HC
    by_cases h92 : c = 92
    ·have q : ((c.toNat : Int) == 92) = true := by rw [h92]; rfl
     have HI := Hy (HC.out.1 h92)
     clear h92
     go_wp2
     refine ⟨⟨f, i + 2, part, by omega, hf, by omega, h00, rfl, ⟨by go_num, rfl⟩, H.out.2.2.2.2.2.2.1, H.out.2.2.2.2.2.2.2.1, H.out.2.2.2.2.2.2.2.2.1, H.out.2.2.2.2.2.2.2.2.2.1, H.out.2.2.2.2.2.2.2.2.2.2.1, H.out.2.2.2.2.2.2.2.2.2.2.2.1, by rw [<- HI.out]; exact H.out.2.2.2.2.2.2.2.2.2.2.2.2⟩, by simp [intOf]; omega⟩
    have q1 : ((c.toNat : Int) == 92) = false := by rw [beq_eq_false_iff_ne]; intro hh; apply h92; apply UInt8.toNat_inj.1; show _ = 92; omega
    by_cases h43 : c = 43
    ·have q2 : ((c.toNat : Int) == 43) = true := by rw [h43]; rfl
     have HI := Hy (HC.out.2.1 h43)
     clear h43 h92
     go_wp2_with (at_builtin; refine wpList_pushc rfl (.tmp 23) (.tmp 28) 43 9 rfl w.heap.size 1 16 (.string ByteArray.empty) Tryz.dninfo9 Tryz.underlying43 rfl (by decide) [.string ⟨(curL s f i).toArray⟩] rfl ?c0 _ part.length _ rfl _ rfl ?c3 H.out.2.2.2.2.2.2.1 ?c1 ?c2 H.out.2.2.2.2.2.2.2.2.2.2.1.size ?_)
     case c0 => first | rfl | (intro u hu; simp at hu; subst hu; rfl)
     case c1 => have := H.out.2.2.2.2.2.2.2.2.2.2.2.1; unfold maxLen; omega
     case c2 => have := H.out.2.2.2.2.2.2.2.2.2.2.2.1; omega
     case c3 => rfl
     intro pv' w' g1 g2 g3
     obtain ⟨pa', pc', rfl⟩ := ownsRow_slice g1
     have hbB : Below w.heap.size w w' := H.out.2.2.2.2.2.2.2.2.2.2.1.trans (g2.toBelow H.out.2.2.2.2.2.2.2.2.2.2.1.size (fun k _ hk => (H.out.2.2.2.2.2.2.1.lt k hk.symm).1))
     have hgr := gridV_part H.out.2.2.2.2.2.2.2.2.2.1 g2 H.out.2.2.2.2.2.2.2.1 H.out.2.2.2.2.2.2.2.2.1
     have hA : Apart (.slice pa' (part.length + 1) pc') u3 := (apart_new H.out.2.2.2.2.2.2.2.1.symm H.out.2.2.2.2.2.2.2.2.2.1.2.1 g3).symm
     have hA2 : ∀ u ∈ vs, Apart (.slice pa' (part.length + 1) pc') u := fun u hu => by
      obtain ⟨n, hn, rfl⟩ := List.mem_iff_getElem.1 hu
      have hg := H.out.2.2.2.2.2.2.2.2.2.1
      exact (apart_new (H.out.2.2.2.2.2.2.2.2.1 _ hu).symm (hg.2.2 n (by rw [<- hg.1]; exact hn) hn).1 g3).symm
     have H2 := Hy (An (show w'.ownsRow w.heap.size 9 1 (.slice pa' (part.length + 1) pc') (part ++ [curL s f i]).length (sc (part ++ [curL s f i])) by rw [sc_snoc, List.length_append]; exact g1) (An hA (An hA2 (An hgr hbB))))
     clear g1 g2 g3 hbB hgr hA hA2
     go_wp2
     refine ⟨⟨i + 1, i + 1, part ++ [curL s f i], by omega, by omega, by omega, by omega, rfl, ⟨by go_num, by go_num⟩, H2.out.1, H2.out.2.1, H2.out.2.2.1, H2.out.2.2.2.1, H2.out.2.2.2.2, ?_, by rw [<- HI.out]; exact H.out.2.2.2.2.2.2.2.2.2.2.2.2⟩, by simp [intOf]; omega⟩
     have := H.out.2.2.2.2.2.2.2.2.2.2.2.1
     simp; omega
    have q2 : ((c.toNat : Int) == 43) = false := by rw [beq_eq_false_iff_ne]; intro hh; apply h43; apply UInt8.toNat_inj.1; show _ = 43; omega
    by_cases h44 : c = 44
    ·have q3 : ((c.toNat : Int) == 44) = true := by rw [h44]; rfl
     have HI := Hy (HC.out.2.2.1 h44)
     clear h43 h92 h44
     go_wp2_with (at_builtin; refine wpList_pushc rfl (.tmp 35) (.tmp 40) 43 9 rfl w.heap.size 1 16 (.string ByteArray.empty) Tryz.dninfo9 Tryz.underlying43 rfl (by decide) [.string ⟨(curL s f i).toArray⟩] rfl ?c0 _ part.length _ rfl _ rfl ?c3 H.out.2.2.2.2.2.2.1 ?c1 ?c2 H.out.2.2.2.2.2.2.2.2.2.2.1.size ?_)
     case c0 => first | rfl | (intro u hu; simp at hu; subst hu; rfl)
     case c1 => have := H.out.2.2.2.2.2.2.2.2.2.2.2.1; unfold maxLen; omega
     case c2 => have := H.out.2.2.2.2.2.2.2.2.2.2.2.1; omega
     case c3 => rfl
     intro pv' w' g1 g2 g3
     obtain ⟨pa', pc', rfl⟩ := ownsRow_slice g1
     have hbB : Below w.heap.size w w' := H.out.2.2.2.2.2.2.2.2.2.2.1.trans (g2.toBelow H.out.2.2.2.2.2.2.2.2.2.2.1.size (fun k _ hk => (H.out.2.2.2.2.2.2.1.lt k hk.symm).1))
     have hgr := gridV_part H.out.2.2.2.2.2.2.2.2.2.1 g2 H.out.2.2.2.2.2.2.2.1 H.out.2.2.2.2.2.2.2.2.1
     have hA : Apart (.slice pa' (part.length + 1) pc') u3 := (apart_new H.out.2.2.2.2.2.2.2.1.symm H.out.2.2.2.2.2.2.2.2.2.1.2.1 g3).symm
     obtain ⟨va, vc, hv⟩ := ownsRow_slice hgr.2.1
     have H2 := Hy (An (show w'.ownsRow w.heap.size 9 1 (.slice pa' (part.length + 1) pc') (part ++ [curL s f i]).length (sc (part ++ [curL s f i])) by rw [sc_snoc, List.length_append]; exact g1) (An hA (An hgr hbB)))
     clear g1 g2 g3 hbB hgr hA hv
     go_wp2_with (at_builtin; refine wpList_pushc rfl (.tmp 34) (.tmp 42) 161 43 rfl w.heap.size 1 24 (.slice none 0 0) Tryz.dninfo43 Tryz.underlying161 rfl (by decide) [.slice pa' (part.length + 1) pc'] rfl ?c0 _ ps.length _ rfl _ rfl ?c3 H2.out.2.2.1.2.1 ?c1 ?c2 H2.out.2.2.2.size ?_)
     case c0 => first | rfl | (intro u hu; simp at hu; subst hu; rfl)
     case c1 => have := H.out.2.2.2.2.2.2.2.2.2.2.2.1; unfold maxLen; omega
     case c2 => have := H.out.2.2.2.2.2.2.2.2.2.2.2.1; omega
     case c3 => rfl
     intro v2 w2 g1 g2 g3
     have hgs := gridV_snoc H2.out.2.2.1 H2.out.1 H2.out.2.1 g1 g2 g3
     have hb2 : Below w.heap.size w w2 := H2.out.2.2.2.trans (g2.toBelow H2.out.2.2.2.size (fun k _ hk => (H2.out.2.2.1.2.1.lt k hk.symm).1))
     obtain ⟨va2, vc2, rfl⟩ := ownsRow_slice g1
     have H3 := Hy (An hgs hb2)
     clear g1 g2 g3 hgs hb2
     go_wp2
     refine ⟨⟨_, _, i + 1, by omega, by go_num, H3.out.1, H3.out.2, ?_, ?_⟩, by simp [intOf]; omega⟩
     ·have := H.out.2.2.2.2.2.2.2.2.2.2.2.1
      simp; omega
     ·have h9 := H.out.2.2.2.2.2.2.2.2.2.2.2.2
      rw [HI.out] at h9
      rw [<- h9]; simp
    ·have q3 : ((c.toNat : Int) == 44) = false := by rw [beq_eq_false_iff_ne]; intro hh; apply h44; apply UInt8.toNat_inj.1; show _ = 44; omega
     have HI := Hy (HC.out.2.2.2 h92 h43 h44)
     clear h43 h92 h44
     go_wp2
     refine ⟨⟨f, i + 1, part, by omega, hf, by omega, h00, rfl, ⟨by go_num, rfl⟩, H.out.2.2.2.2.2.2.1, H.out.2.2.2.2.2.2.2.1, H.out.2.2.2.2.2.2.2.2.1, H.out.2.2.2.2.2.2.2.2.2.1, H.out.2.2.2.2.2.2.2.2.2.2.1, H.out.2.2.2.2.2.2.2.2.2.2.2.1, by rw [<- HI.out]; exact H.out.2.2.2.2.2.2.2.2.2.2.2.2⟩, by simp [intOf]; omega⟩
   ·have hil : ¬ ((i : Int) < (s.size : Int)) := by omega
    have hfs : (f : Int) <= (s.size : Int) := by omega
    have hex := HE.out f s.size
    change s.extract f s.size = ⟨(curL s f s.size).toArray⟩ at hex
    have H := Hy (An hfi (An hf (An hi (An h00 (An hv (An hp (An hown (An hap (An hap2 (An hgrid (An hb (An hlen hinv))))))))))))
    have HI := Hy (stT_end s part f i (by omega))
    clear hown hap hap2 hgrid hb hlen hinv hv hp
    go_wp2_with (at_builtin; refine wpList_pushc rfl (.tmp 47) (.tmp 51) 43 9 rfl w.heap.size 1 16 (.string ByteArray.empty) Tryz.dninfo9 Tryz.underlying43 rfl (by decide) [.string ⟨(curL s f s.size).toArray⟩] rfl ?c0 _ part.length _ rfl _ rfl ?c3 H.out.2.2.2.2.2.2.1 ?c1 ?c2 H.out.2.2.2.2.2.2.2.2.2.2.1.size ?_)
    case c0 => first | rfl | (intro u hu; simp at hu; subst hu; rfl)
    case c1 => have := H.out.2.2.2.2.2.2.2.2.2.2.2.1; unfold maxLen; omega
    case c2 => have := H.out.2.2.2.2.2.2.2.2.2.2.2.1; omega
    case c3 => rfl
    intro pv' w' g1 g2 g3
    obtain ⟨pa', pc', rfl⟩ := ownsRow_slice g1
    have hbB : Below w.heap.size w w' := H.out.2.2.2.2.2.2.2.2.2.2.1.trans (g2.toBelow H.out.2.2.2.2.2.2.2.2.2.2.1.size (fun k _ hk => (H.out.2.2.2.2.2.2.1.lt k hk.symm).1))
    have hgr := gridV_part H.out.2.2.2.2.2.2.2.2.2.1 g2 H.out.2.2.2.2.2.2.2.1 H.out.2.2.2.2.2.2.2.2.1
    have hA : Apart (.slice pa' (part.length + 1) pc') u3 := (apart_new H.out.2.2.2.2.2.2.2.1.symm H.out.2.2.2.2.2.2.2.2.2.1.2.1 g3).symm
    obtain ⟨va, vc, hv⟩ := ownsRow_slice hgr.2.1
    have H2 := Hy (An (show w'.ownsRow w.heap.size 9 1 (.slice pa' (part.length + 1) pc') (part ++ [curL s f s.size]).length (sc (part ++ [curL s f s.size])) by rw [sc_snoc, List.length_append]; exact g1) (An hA (An hgr hbB)))
    clear g1 g2 g3 hbB hgr hA hv
    go_wp2_with (at_builtin; refine wpList_pushc rfl (.tmp 46) (.tmp 53) 161 43 rfl w.heap.size 1 24 (.slice none 0 0) Tryz.dninfo43 Tryz.underlying161 rfl (by decide) [.slice pa' (part.length + 1) pc'] rfl ?c0 _ ps.length _ rfl _ rfl ?c3 H2.out.2.2.1.2.1 ?c1 ?c2 H2.out.2.2.2.size ?_)
    case c0 => first | rfl | (intro u hu; simp at hu; subst hu; rfl)
    case c1 => have := H.out.2.2.2.2.2.2.2.2.2.2.2.1; unfold maxLen; omega
    case c2 => have := H.out.2.2.2.2.2.2.2.2.2.2.2.1; omega
    case c3 => rfl
    intro v2 w2 g1 g2 g3
    have hgs := gridV_snoc H2.out.2.2.1 H2.out.1 H2.out.2.1 g1 g2 g3
    have hb2 : Below w.heap.size w w2 := H2.out.2.2.2.trans (g2.toBelow H2.out.2.2.2.size (fun k _ hk => (H2.out.2.2.1.2.1.lt k hk.symm).1))
    obtain ⟨va2, vc2, rfl⟩ := ownsRow_slice g1
    have H3 := Hy (An hgs hb2)
    clear g1 g2 g3 hgs hb2
    go_wp2
    rw [Exit.noGoto_ret]
    go_ret
    have h9 := H.out.2.2.2.2.2.2.2.2.2.2.2.2
    rw [HI.out] at h9
    have h10 := H3.out.1
    rw [h9] at h10
    exact splPost_mk h10 H3.out.2
theorem ix_ways (l : List UInt8) (c : UInt8) : (Lib.indexByte l c = -1 /\ cut1 c l = l /\ cut2 c l = []) \/ ∃ k : Nat, Lib.indexByte l c = (k : Nat) /\ k < l.length /\ cut1 c l = l.take k /\ cut2 c l = l.drop (k + 1) := by
 induction l with
 | nil => exact .inl ⟨rfl, rfl, rfl⟩
 | cons b r ih =>
  by_cases h : b = c
  ·refine .inr ⟨0, ?_, by simp, ?_, ?_⟩
   ·simp [Lib.indexByte, h]
   ·simp [cut1, h]
   ·simp [cut2, h]
  ·rcases ih with ⟨h1, h2, h3⟩ | ⟨k, h1, h2, h3, h4⟩
   ·refine .inl ⟨?_, ?_, ?_⟩
    ·simp [Lib.indexByte, h, h1]
    ·simp [cut1, h] at h2 ⊢; exact h2
    ·simp [cut2, h] at h3 ⊢; exact h3
   ·refine .inr ⟨k + 1, ?_, by simp; omega, ?_, ?_⟩
    ·have : ¬ Lib.indexByte r c = -1 := by omega
     simp [Lib.indexByte, h, h1, this] <;> omega
    ·simp [cut1, h] at h3 ⊢; exact h3
    ·simp [cut2, h] at h4 ⊢; exact h4
theorem slindex_any (s : ByteArray) (w : World) : Calls Tryz.prog 250 #[.string s, .string ⟨#[61]⟩] w (PureI (Lib.indexByte s.data.toList 61) w) := by
 have HC := Hy (slidx_any s 61)
 by_cases h : s.data.toList = [61]
 ·have ht : ([61] == s.toList) = true := by rw [ByteArray.toList_eq, h]; rfl
  have H := Hy (show Lib.indexByte s.data.toList 61 = 0 by rw [h]; rfl)
  clear h HC
  go_enter Tryz.func250, Tryz.ntmps250
  go_wp2
  go_ret
  exact ⟨by rw [H.out]; rfl, rfl⟩
 ·have ht : ([61] == s.toList) = false := by rw [ByteArray.toList_eq, beq_eq_false_iff_ne]; exact fun hh => h hh.symm
  clear h
  go_enter Tryz.func250, Tryz.ntmps250
  go_wp2_with fail
  refine (HC.out _).mono ?_
  rintro e w1 ⟨rfl, hw⟩
  obtain rfl := hw.symm
  go_wp2
  go_ret
  exact ⟨rfl, rfl⟩
def CutP (l : List UInt8) (w : World) (en : Ending) (w' : World) : Prop := (∃ b, en = .returned (.tuple #[.string ⟨(cut1 61 l).toArray⟩, .string ⟨(cut2 61 l).toArray⟩, .bool b])) /\ Below w.heap.size w w'
theorem slcut_any (s : ByteArray) (hs : s.size <= 140737488355328) (w : World) : Calls Tryz.prog 226 #[.string s, .string ⟨#[61]⟩] w (CutP s.data.toList w) := by
 have HC := Hy (slindex_any s)
 have hl := len_list s
 rcases ix_ways s.data.toList 61 with ⟨h1, h2, h3⟩ | ⟨k, h1, h2, h3, h4⟩
 ·rw [h1] at HC
  have H := Hy (An h2 h3)
  clear h1 h2 h3 hl
  go_enter Tryz.func226, Tryz.ntmps226
  go_wp2_with fail
  refine (HC.out _).mono ?_
  rintro e w1 ⟨rfl, hw⟩
  obtain rfl := hw.symm
  go_wp2
  go_ret3
  refine ⟨⟨false, ?_⟩, Below.refl _ _⟩
  rw [H.out.1, H.out.2, mk_list]
  rfl
 ·rw [h1] at HC
  have H := Hy (An h3 h4)
  have q0 : (0 : Int) <= (k : Int) := by omega
  have q1 : (k : Int) <= (s.size : Int) := by omega
  have q2 : (k : Int) + 1 <= (s.size : Int) := by omega
  have q3 : (0 : Int) <= (k : Int) + 1 := by omega
  have q4 : (k : Int) < (s.size : Int) := by omega
  have hW : IntKind.i64.wrap ((k : Int) + 1) = (k : Int) + 1 := by rw [IntKind.wrap_i64]; omega
  have e1 : s.extract 0 k = ⟨(cut1 61 s.data.toList).toArray⟩ := by rw [<- mk_list (s.extract 0 k), Lib.extract_data, List.drop_zero, h3]; rfl
  have e2 : s.extract (k + 1) s.size = ⟨(cut2 61 s.data.toList).toArray⟩ := by rw [<- mk_list (s.extract (k + 1) s.size), Lib.extract_to_end, h4]
  clear h1 h2 h3 h4 hl
  go_enter Tryz.func226, Tryz.ntmps226
  go_wp2_with fail
  refine (HC.out _).mono ?_
  rintro e w1 ⟨rfl, hw⟩
  obtain rfl := hw.symm
  go_wp2
  go_quiet (fail)
  go_wp2
  go_ret3
  exact ⟨⟨_, rfl⟩, below_dn (Below.refl _ _) nq⟩
theorem scut_any (s : ByteArray) (hs : s.size <= 140737488355328) (w : World) : Calls Tryz.prog 191 #[.string s, .string ⟨#[61]⟩] w (CutP s.data.toList w) := by
 have HC := Hy (slcut_any s hs)
 go_enter Tryz.func191, Tryz.ntmps191
 go_wp2_with fail
 refine (HC.out _).mono ?_
 rintro e w1 ⟨⟨b, rfl⟩, hb⟩
 go_wp2
 go_ret3
 exact ⟨⟨b, rfl⟩, hb⟩
theorem tlB_cons (c : UInt8) (l : List UInt8) : tlB (c :: l) = if c = 32 then tlB l else c :: l := by
 unfold tlB
 by_cases h : c = 32 <;> simp [h]
theorem trB_snoc (l : List UInt8) (c : UInt8) : trB (l ++ [c]) = if c = 32 then trB l else l ++ [c] := by
 unfold trB
 by_cases h : c = 32 <;> simp [h]
def PureS (l : List UInt8) (w : World) (en : Ending) (w' : World) : Prop := en = .returned (.string ⟨l.toArray⟩) /\ w' = w
theorem pureS_mk {l : List UInt8} {x : ByteArray} {w : World} (h1 : l = x.data.toList) : PureS l w (.returned (.string x)) w := by
 refine ⟨?_, rfl⟩
 rw [h1, mk_list]
theorem list_last (x : ByteArray) (h : 0 < x.size) : x.data.toList = (x.extract 0 (x.size - 1)).data.toList ++ [x[x.size - 1]] := by
 have hl := len_list x
 rw [Lib.extract_data, List.drop_zero]
 have h2 := take_snoc x (x.size - 1) (by omega)
 rw [show x.size - 1 + 1 = x.size by omega, List.take_of_length_le (by omega)] at h2
 exact h2
theorem trimlb_any (s : ByteArray) (w : World) : Calls Tryz.prog 227 #[.string s, .int .u8 32] w (PureS (tlB s.data.toList) w) := by
 obtain ⟨L, hL⟩ : ∃ L, s.data.toList = L := ⟨_, rfl⟩
 rw [hL]
 go_enter Tryz.func227, Tryz.ntmps227
 go_wp2
 go_loop [0] (fun v => ∃ x : ByteArray, v = .string x /\ tlB x.data.toList = tlB L) (fun v => strSz v)
 case atStart => exact ⟨s, rfl, by rw [hL]⟩
 case round =>
  obtain ⟨x, rfl, hx⟩ := hrel
  by_cases h : x.size = 0
  ·have hn : x.data.toList = [] := List.eq_nil_of_length_eq_zero (by rw [len_list]; exact h)
   rw [hn] at hx
   have H := Hy (hx.symm.trans (show tlB [] = x.data.toList by rw [hn]; rfl))
   clear hx hn
   go_wp2
   go_ret
   exact pureS_mk H.out
  ·have hp : 0 < x.size := by omega
   have h1 : 1 <= x.size := hp
   have h2 : (0 : Int) < (x.size : Int) := by omega
   have h3 : (1 : Int) <= (x.size : Int) := by omega
   have hcut := list_cut x hp
   rw [hcut, tlB_cons] at hx
   have hb := x[0].toNat_lt
   by_cases h0 : x[0] = 32
   ·rw [if_pos h0] at hx
    have ht : ((x[0].toNat : Int) == 32) = true := by rw [h0]; rfl
    have H := Hy hx
    obtain ⟨c, hc⟩ : ∃ c, x[0].toNat = c := ⟨_, rfl⟩
    rw [hc] at ht hb
    clear hx hcut h0 h
    go_wp2
    refine ⟨⟨_, rfl, H.out⟩, ?_⟩
    show (x.extract 1 x.size).size < x.size
    rw [<- len_list (x.extract 1 x.size), Lib.extract_to_end, List.length_drop, len_list]; omega
   ·rw [if_neg h0] at hx
    have ht : ((x[0].toNat : Int) == 32) = false := by
     rw [beq_eq_false_iff_ne]; intro hh; apply h0; apply UInt8.toNat_inj.1; show _ = 32; omega
    rw [<- hcut] at hx
    have H := Hy hx
    clear hx hcut h0 h
    go_wp2
    go_ret
    exact pureS_mk H.out.symm
theorem trimrb_any (s : ByteArray) (hs : s.size <= 140737488355328) (w : World) : Calls Tryz.prog 228 #[.string s, .int .u8 32] w (PureS (trB s.data.toList) w) := by
 obtain ⟨L, hL⟩ : ∃ L, s.data.toList = L := ⟨_, rfl⟩
 rw [hL]
 go_enter Tryz.func228, Tryz.ntmps228
 go_wp2
 go_loop [0] (fun v => ∃ x : ByteArray, v = .string x /\ x.size <= 140737488355328 /\ trB x.data.toList = trB L) (fun v => strSz v)
 case atStart => exact ⟨s, rfl, hs, by rw [hL]⟩
 case round =>
  obtain ⟨x, rfl, hxs, hx⟩ := hrel
  by_cases h : x.size = 0
  ·have hn : x.data.toList = [] := List.eq_nil_of_length_eq_zero (by rw [len_list]; exact h)
   rw [hn] at hx
   have H := Hy (hx.symm.trans (show trB [] = x.data.toList by rw [hn]; rfl))
   clear hx hn
   go_wp2
   go_ret
   exact pureS_mk H.out
  ·have hp : 0 < x.size := by omega
   obtain ⟨n, hn⟩ : ∃ n, x.size = n + 1 := ⟨x.size - 1, by omega⟩
   have hcut := list_last x hp
   have hlast : x[x.size - 1] = x[n]'(by omega) := by congr 1; omega
   rw [hcut, trB_snoc, hlast] at hx
   rw [hlast] at hcut
   have hb := (x[n]'(by omega)).toNat_lt
   have hextr : x.extract 0 (x.size - 1) = x.extract 0 n := by rw [hn]; rfl
   rw [hextr] at hx hcut
   by_cases h0 : x[n]'(by omega) = 32
   ·rw [if_pos h0] at hx
    have ht : (((x[n]'(by omega)).toNat : Int) == 32) = true := by rw [h0]; rfl
    have hz : (x.extract 0 n).size = n := by rw [<- len_list (x.extract 0 n), Lib.extract_data, List.drop_zero, List.length_take, len_list]; omega
    have H := Hy (An hx hz)
    clear hx hcut h0 h hlast hextr hz
    go_wp2
    refine ⟨⟨_, rfl, by rw [H.out.2]; omega, H.out.1⟩, ?_⟩
    show (x.extract 0 n).size < x.size
    rw [H.out.2, hn]; omega
   ·rw [if_neg h0] at hx
    have ht : (((x[n]'(by omega)).toNat : Int) == 32) = false := by
     rw [beq_eq_false_iff_ne]; intro hh; apply h0; apply UInt8.toNat_inj.1; show _ = 32; omega
    rw [<- hcut] at hx
    have H := Hy hx
    clear hx hcut h0 h hlast hextr
    go_wp2
    go_ret
    exact pureS_mk H.out.symm
theorem triml_any (s : ByteArray) (w : World) : Calls Tryz.prog 219 #[.string s, .string ⟨#[32]⟩] w (PureS (tlB s.data.toList) w) := by
 by_cases h0 : s.size = 0
 ·have hem := str_e s h0
  have hn : s.data.toList = [] := List.eq_nil_of_length_eq_zero (by rw [len_list]; exact h0)
  have H := Hy (show tlB s.data.toList = s.data.toList by rw [hn]; rfl)
  clear hn h0
  go_enter Tryz.func219, Tryz.ntmps219
  go_wp2
  go_ret
  exact pureS_mk H.out
 ·have hem := str_ne s (by omega)
  have HC := Hy (trimlb_any s)
  clear h0
  go_enter Tryz.func219, Tryz.ntmps219
  go_wp2_with fail
  refine (HC.out _).mono ?_
  rintro e w1 ⟨rfl, hw⟩
  obtain rfl := hw.symm
  go_wp2
  go_ret
  exact ⟨rfl, rfl⟩
theorem trB_len (l : List UInt8) : (trB l).length <= l.length := by
 unfold trB
 rw [List.length_reverse]
 exact Nat.le_trans (List.dropWhile_sublist _).length_le (by simp)
theorem tlB_len (l : List UInt8) : (tlB l).length <= l.length := (List.dropWhile_sublist _).length_le
theorem trim32_any (s : ByteArray) (hs : s.size <= 140737488355328) (w : World) : Calls Tryz.prog 192 #[.string s, .string ⟨#[32]⟩] w (StrPost (tlB (trB s.data.toList)) w) := by
 by_cases h0 : s.size = 0
 ·have hem := str_e s h0
  have hn : s.data.toList = [] := List.eq_nil_of_length_eq_zero (by rw [len_list]; exact h0)
  have H := Hy (show tlB (trB s.data.toList) = s.data.toList by rw [hn]; rfl)
  clear hn h0
  go_enter Tryz.func192, Tryz.ntmps192
  go_wp2
  go_ret
  exact ⟨by rw [H.out, mk_list]; rfl, Below.refl _ _⟩
 ·have hem := str_ne s (by omega)
  have HR := Hy (trimrb_any s hs)
  have HL := Hy (trimlb_any ⟨(trB s.data.toList).toArray⟩)
  change Hid (∀ w, Calls Tryz.prog _ _ w (PureS (tlB (trB s.data.toList)) w)) at HL
  obtain ⟨R, hR⟩ : ∃ R, trB s.data.toList = R := ⟨_, rfl⟩
  rw [hR] at HR HL ⊢
  clear h0 hR
  go_enter Tryz.func192, Tryz.ntmps192
  go_wp2
  go_quiet (first | (go_at_call 228; exact Calls.quiet_of_same (HR.out _)) | (go_at_call 227; exact Calls.quiet_of_same (HL.out _)))
  go_wp2
  go_ret
  exact ⟨rfl, below_dn (Below.refl _ _) nq⟩
end Go.Proofs.YtpkbgkoocijegaaGreatDoor
