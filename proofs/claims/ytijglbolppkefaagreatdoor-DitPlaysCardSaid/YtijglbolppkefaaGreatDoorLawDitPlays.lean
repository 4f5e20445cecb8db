/- DitPlays holds. -/
import Derived.Test.YtijglbolppkefaaGreatDoorDpD
import Derived.Test.YtijglbolppkefaaGreatDoorDtArg
import Derived.Test.YtijglbolppkefaaGreatDoorDtLd
import Derived.Test.YtijglbolppkefaaGreatDoorCards
import Derived.Test.YtijglbolppkefaaGreatDoorTie
import Derived.LaidMore
import Derived.Lay
import Derived.SevenTiedAt
import Derived.Stop.Joined
import Derived.Test.YtijglbolppkefaaGreatDoorRows
import Derived.WalkKit
import Derived.ProofKit
import Derived.OpenShut
import Derived.ShutString
import Derived.Carry
namespace Go.Proofs.YtijglbolppkefaaGreatDoor.ditPlays
open Go.ChangeShapes Go.WideShapes Go.ChangeAt Go.RowKit Go.Proofs.MemK Go.Proofs.BerK
open Go.ChangeMaps (open_string shut_string)
theorem own : ownKnob Tryz.prog.godebug = none:=by kernel_rfl
theorem laidOut : laidOutB Tryz.prog = true:=by kernel_rfl
theorem cells9 : Tryz.prog.cellsOf 9 = 1:=by kernel_rfl
set_option maxRecDepth 100000 in
theorem lifted (os : Os) (started : os.Started) (H : Type) (enc : TypeId × Value → H) :
  ReturnsInHanded {} Tryz.checked os 3 .any (fun w args=>(Rows.ditPlaysSpec.pre enc Tryz.prog Tryz.f3 Rows.ditPlaysRow.domain false w args ∧ laidMetH Tryz.prog Rows.ditPlaysRow.laid w) ∧ sizedMet enc Tryz.prog Tryz.f3 (OpenSpec.ofChange Rows.ditPlaysSpec) false w args) (Rows.ditPlaysSpec.post enc Tryz.prog Tryz.f3 false true false false):=by
 refine returnsInHanded_of_change_and (C:=Tryz.checked) (X:=fun w _=>laidMetH Tryz.prog Rows.ditPlaysRow.laid w) (fun _ _ _ hh h=>h.of_heap hh) own started Kr Tryz.func3
  (ChangeSpec.witness_shaped (enc:=enc) (C:=Tryz.checked) (os:=os) (X:=fun w _=>laidMetH Tryz.prog Rows.ditPlaysRow.laid w) false (World.laidAll Tryz.prog os Rows.ditPlaysRow.laid) #[.slice none 0 0] 8 (World.laidAll_os _ _ _)
   (World.shaped_of_ZipB Kr Kr) Kr Kr Kr
   (by rw [MakeChecks.laidMetH_plain _ _ _ Kr]; exact laidMet_laidAll _ Kr Kr)) ?_
 intro W base args ds gs before hval0 hW hcnd _ hL _
 have hval : ∀ (j : Nat) t v,Tryz.f3.params[j]? = some t → args[j]? = some v → Value.okWide Tryz.prog W .any base t v:=hval0
 have hW':=hW
 obtain ⟨p,q,hA0,hV,rfl,hfz,hnd⟩:=hW
 have hA : DataW.TrodAll enc Tryz.prog W 0 (fun _=>true) true Tryz.f3.params.toList args.toList ds p:=hA0
 rw [Tryz.params3] at hA hval
 obtain ⟨v0,vs0,d0,ds0,p0,q0,hargs,rfl,rfl,h0,r0⟩:=trodAll_cons hA
 obtain ⟨rfl,rfl,rfl⟩:=trodAll_nil r0
 obtain rfl : args = #[v0]:=by cases args; simp_all
 obtain ⟨rfl,rfl⟩:=trodVars_none hV
 obtain ⟨b0,n0,c0,rfl⟩:=okWide_slice Tryz.underlying22 (hval 0 22 v0 rfl rfl)
 obtain ⟨a0,e0,at0,mx0⟩:=deeds_arg h0
 subst e0
 clear hA0 hval0
 try simp only [List.append_nil] at hW'
 try simp only [List.nil_append] at hW'
 have hlt0 : ∀ x ∈ p0,x.block < W.heap.size:=fun x hx=>by simpa using hW'.lt x (by simp [hx])
 refine (dtplays_any a0 (.slice b0 a0.length c0) W at0 (errOk_dp hL)).mono fun e W' ⟨he,hg⟩=>?_
 subst he
 have hargs2:=(trodAll_cons_mk (Below.trod laidOut Kr (of_decide_eq_true Kr) h0 hg hlt0) trodAll_mk0)
 try simp only [List.append_nil] at hargs2
 try simp only [List.nil_append] at hargs2
 exact ⟨_,rfl,_,_,_,[],(p0),[],hW',(trodAll_cons_mk (shut_bool Tryz.underlying4 _) trodAll_mk0),hargs2,rfl,hg.frame _,fun h=>by cases h⟩
theorem over : Rows.ditPlaysRow.holds Tryz.pinned (OpenSpec.ofChange Rows.ditPlaysSpec) :=
 OpenClaim.holds_of_wide 3 Tryz.f3 rfl rfl rfl rfl rfl rfl rfl ⟨rfl,rfl,rfl,rfl,rfl⟩ rfl rfl rfl rfl rfl (by kernel_rfl) Tryz.func3 (by kernel_rfl)
  (of_decide_eq_true (by kernel_rfl)) (by unfold Func.isWrapper; first | (rw [if_pos (by decide +kernel)]; kernel_rfl) | (rw [if_neg (by decide +kernel)]; exact ⟨rfl,rfl⟩))
  (fun os started H enc _=>lifted os started H enc)
/-- The given statement. -/
theorem proved : Rows.DitPlaysCardSaid :=
 Claim7.holds_tied_plain_at .later [] [.data,.data,.data,.data,.sentinel,.sentinel,.pinned] true (true,"d38011d1035d5f686acd52a6ed46b63520df83d001976658f370f35e49a1ce79") true over (fun _ h=>by cases h) (by kernel_rfl) (fun _ h=>by cases h) ditPlays_row_tie rfl ⟨rfl,rfl⟩ (by kernel_rfl) rfl
  (fun f fn hf hfn=>by
   obtain rfl : f = 3:=Option.some.inj ((show Tryz.prog.funcNamed "bothy/bothylaw20.DitPlays" = some 3 by kernel_rfl).symm.trans hf) |>.symm
   obtain rfl : fn = Tryz.f3:=(Option.some.inj (Tryz.func3.symm.trans hfn)).symm
   exact ⟨by kernel_rfl,fun j t ht=>by
    rw [Tryz.params3] at ht
    have hm : t ∈ [22]:=by simpa using Array.mem_of_getElem? ht
    have hall : ([22].all fun u => !Tryz.prog.wantsStandIn u) = true:=by kernel_rfl
    exact (show Tryz.prog.wantsStandIn t = false by simpa using List.all_eq_true.1 hall t hm)⟩)
  (by kernel_rfl)
#print axioms proved
end Go.Proofs.YtijglbolppkefaaGreatDoor.ditPlays
