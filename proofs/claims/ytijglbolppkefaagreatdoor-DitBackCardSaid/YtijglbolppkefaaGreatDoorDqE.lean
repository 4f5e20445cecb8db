/- The texts of a name's pairs, for. -/
import Derived.Test.YtijglbolppkefaaGreatDoorMDqA
import Derived.Test.YtijglbolppkefaaGreatDoorMLayw
import Derived.Test.YtijglbolppkefaaGreatDoorGenB
import Derived.BigQuiet
set_option linter.unusedVariables false
set_option linter.unusedSimpArgs false
set_option maxHeartbeats 25600000
set_option maxRecDepth 100000
namespace Go.Proofs.YtijglbolppkefaaGreatDoor
open Go.Proofs.Tryz
open Go Go.RowKit Go.Proofs.BerK Go.Proofs.MemK Go.Proofs.UtfK
variable {e e2 : TypeId} {ps : List (List (Bs))} {w w' : World} {v : Value} {vs : List Value}
theorem zlm {p:Prop} (h:p:=by
 go_wp2_with fail
 refine (HC.o _).mono ?_
 rintro e w1 ⟨rfl,hw⟩
 obtain rfl:=hw.symm
 go_wp2
 go_ret
 exact ⟨rfl,rfl⟩):p:=h
theorem zln {p:Prop} (h:p:=by
 rw [beq_eq_false_iff_ne];intro hh;apply h0;apply UInt8.toNat_inj.1;show _=32;omega):p:=h
theorem Tryz.dninfo9 : (prog.info? 9).map (fun i=>(i.zero,i.size,i.bytes))=some (some (.string ByteArray.empty),1,16):=by kernel_rfl
theorem Tryz.dninfo47 : (prog.info? 47).map (fun i=>(i.zero,i.size,i.bytes))=some (some (.slice none 0 0),1,24):=by kernel_rfl
theorem zei (p:List (Bs)) (x:Bs):sc (p++[x])=sc p++[.string ⟨x.toArray⟩]:=by simp [sc]
theorem zlo (s:ByteArray) (f p:Nat):s.extract f p=⟨((s.data.toList.drop f).take (p - f)).toArray⟩:=by rw [<- zez,zbD]
def zQ (s:ByteArray) (f p:Nat):Bs:=(s.data.toList.drop f).take (p - f)
theorem zfb (s:ByteArray) (p:Nat):zQ s p p=[]:=by simp [zQ]
theorem zf5 (s:ByteArray) (f p n:Nat) (h:f<=p):zQ s f (p+n)=zQ s f p++(s.data.toList.drop p).take n:=by
 unfold zQ
 rw [show p+n - f=(p - f)+n by omega,List.take_add,List.drop_drop,show f+(p - f)=p by omega]
theorem zlp (s:ByteArray) (f p:Nat) (h:s.size<=p):zQ s f p=zQ s f s.size:=by
 have hl:=zl s
 unfold zQ
 by_cases hf:f<=s.size
 ·rw [List.take_of_length_le Sq,List.take_of_length_le Sq]
 rw [List.drop_of_length_le Om];simp
def stT (s:ByteArray) (part:List (Bs)) (f p:Nat):List (List (Bs)):=zc4 part (zQ s f p) (zv (s.data.toList.drop p))
theorem zr0 (s:ByteArray) (part:List (Bs)) (f p:Nat) (hf:f<=p) (h:p<s.size) (hc:s[p]=92):stT s part f p=stT s part f (p+2):=by
 have hl:=zl s
 have hd:=zO s.data.toList p Om
 rw [zay s p h,hc] at hd
 unfold stT zc4
 rw [zf5 s f p 2 hf,hd,zeN,<- hd,List.drop_drop]
 simp
theorem zr1 (s:ByteArray) (part:List (Bs)) (f p:Nat) (h:p<s.size) (hc:s[p]=43):stT s part f p=stT s (part++[zQ s f p]) (p+1) (p+1):=by
 have hl:=zl s
 have hd:=zO s.data.toList p Om
 rw [zay s p h,hc] at hd
 unfold stT zc4
 rw [hd,zgX,zfb]
 simp
theorem zr2 (s:ByteArray) (part:List (Bs)) (f p:Nat) (h:p<s.size) (hc:s[p]=44):stT s part f p=(part++[zQ s f p]) :: stT s [] (p+1) (p+1):=by
 have hl:=zl s
 have hd:=zO s.data.toList p Om
 rw [zay s p h,hc] at hd
 unfold stT zc4
 rw [hd,zgY,zfb]
 simp
theorem zr3 (s:ByteArray) (part:List (Bs)) (f p:Nat) (hf:f<=p) (h:p<s.size) (h1:s[p]≠92) (h2:s[p]≠43) (h3:s[p]≠44):stT s part f p=stT s part f (p+1):=by
 have hl:=zl s
 have hd:=zO s.data.toList p Om
 rw [zay s p h] at hd
 unfold stT zc4
 rw [zf5 s f p 1 hf,hd,zd1 _ _ h1 h2 h3]
 simp
theorem zr4 (s:ByteArray) (part:List (Bs)) (f p:Nat) (h:s.size<=p):stT s part f p=[part++[zQ s f s.size]]:=by
 have hl:=zl s
 unfold stT zc4
 rw [zlp s f p h,List.drop_of_length_le Om]
 simp [zv]
theorem zr5 (s:ByteArray):stT s [] 0 0=zbh s.data.toList:=by
 unfold stT zbh
 rw [zfb,List.drop_zero]
def zlq (e2 e:TypeId) (ps:List (List (Bs))) (w:World) (en:Ending) (w':World):Prop :=
 ∃ v vs,en=.returned v/\zcp w' w.heap.size e2 e v vs ps/\Below w.heap.size w w'
theorem zr6 (h:zcp w' w.heap.size e2 e v vs ps) (hb:Below w.heap.size w w'):zlq e2 e ps w (.returned v) w':=⟨v,vs,rfl,h,hb⟩
theorem zih {B:Nat} {pv:Value} (h:zcp w B e2 e v vs ps) (hc:Chg (fun k=>some k=pv.ownBlock) w w') (h1:zaq pv v) (h2:∀ u∈vs,zaq pv u):zcp w' B e2 e v vs ps :=
 zwf h hc (fun k hk=>⟨h1 k hk.symm,fun u hu=>h2 u hu k hk.symm⟩)
theorem zr7 (s:ByteArray) (hm:s.size<=4096) (w:World) :
  Calls prog 141 #[.string s] w (zlq 47 9 (zbh s.data.toList) w):=by
 have HE:=Hy (zlo s)
 go_enter func141,ntmps141
 go_wp2
 go_step3
 go_wp2
 go_step3
 go_wp2
 go_loopw [3,4] (fun v fr wr=>∃ (vs:List Value) (ps:List (List (Bs))) (f:Nat),f<=s.size/\fr=.int .i64 (f:Nat)/\zcp wr w.heap.size 47 9 v vs ps/\Below w.heap.size w wr/\ps.length<=f/\ps++stT s [] f f=zbh s.data.toList) (fun _ fr _=>s.size+1 - (intOf fr).toNat)
 case atStart=>exact ⟨[],[],0,by omega,rfl,zwe _ _ _ _,Br _,by simp,by rw [zr5];rfl⟩
 case round =>
  obtain ⟨vs,ps,f0,ka,rfl,bC,hb,aF,hinv⟩:=hrel
  obtain ⟨v0,k7⟩:=Ex u3
  rw [k7] at bC
  have td:=Hy (An bC (An hb (An aF hinv)))
  clear bC hb aF hinv
  go_wp2
  go_loopw [3,4,5,6] (fun v fr pv iv wr=>∃ (f i:Nat) (part:List (Bs)),f<=i/\f<=s.size/\i<=s.size+1/\f0<=f/\v=v0/\(iv=.int .i64 (i:Nat)/\fr=.int .i64 (f:Nat))/\wr.ownsRow w.heap.size 9 1 pv part.length (sc part)/\zaq pv v0/\(∀ u∈vs,zaq pv u) /\
   zcp wr w.heap.size 47 9 v0 vs ps/\Below w.heap.size w wr/\ps.length+part.length<=f/\ps++stT s part f i=zbh s.data.toList) (fun _ _ _ iv _=>s.size+1 - (intOf iv).toNat)
  case atStart=>exact ⟨f0,f0,[],by omega,ka,by omega,by omega,k7,⟨rfl,rfl⟩,World.ownsRow_nil _ _ _ _,zjd _,fun u _=>zjd u,td.o.1,td.o.2.1,by have:=td.o.2.2.1;simpa using this,td.o.2.2.2⟩
  case round =>
   obtain ⟨f,i,part,rY,hf,hi,Ep,ep,⟨rfl,rfl⟩,ab,ia,qM,bC,hb,aF,hinv⟩:=hrel
   subst ep
   obtain ⟨va,vc,hv⟩:=zh bC.2.1
   obtain ⟨pa,pc,hp⟩:=zh ab
   by_cases aj:i<s.size
   ·have cW:(i:Int)<(s.size:Int):=by omega
    have h8:s[i].toNat<256:=s[i].toNat_lt
    have GM:(f:Int)<=(i:Int):=by omega
    have kC:(i:Int)<=(s.size:Int):=by omega
    have lU:=HE.o f i
    change s.extract f i=⟨(zQ s f i).toArray⟩ at lU
    have H:=Hy (An rY (An hf (An hi (An Ep (An hv (An hp (An ab (An ia (An qM (An bC (An hb (An aF hinv))))))))))))
    have HC:=Hy (An (zr0 s part f i rY aj) (An (zr1 s part f i aj) (An (zr2 s part f i aj) (zr3 s part f i rY aj))))
    clear ab ia qM bC hb aF hinv hv hp
    obtain ⟨c,hc⟩:=Ex (s[i])
    rw [hc] at h8 HC
    by_cases bE:c=92
    ·have q:((c.toNat:Int)==92)=true:=by rw [bE];rfl
     have HI:=Hy (HC.o.1 bE)
     clear bE
     go_wp2
     refine ⟨⟨f,i+2,part,by omega,hf,by omega,Ep,rfl,⟨by go_num,rfl⟩,H.o.2.2.2.2.2.2.1,H.o.2.2.2.2.2.2.2.1,H.o.2.2.2.2.2.2.2.2.1,H.o.2.2.2.2.2.2.2.2.2.1,H.o.2.2.2.2.2.2.2.2.2.2.1,H.o.2.2.2.2.2.2.2.2.2.2.2.1,by rw [<- HI.o];exact H.o.2.2.2.2.2.2.2.2.2.2.2.2⟩,by simp [intOf];omega⟩
    have q1:((c.toNat:Int)==92)=false:=by rw [beq_eq_false_iff_ne];intro hh;apply bE;apply UInt8.toNat_inj.1;show _=92;omega
    by_cases ll:c=43
    ·have q2:((c.toNat:Int)==43)=true:=by rw [ll];rfl
     have HI:=Hy (HC.o.2.1 ll)
     clear ll bE
     go_wp2_with (at_builtin;refine zaM rfl (.tmp 23) (.tmp 28) 47 9 rfl w.heap.size 1 16 (.string ByteArray.empty) Tryz.dninfo9 underlying47 rfl De [.string ⟨(zQ s f i).toArray⟩] rfl ?c0 _ part.length _ rfl _ rfl ?c3 H.o.2.2.2.2.2.2.1 ?c1 ?c2 H.o.2.2.2.2.2.2.2.2.2.2.1.size ?_)
     case c0=>first | rfl | (intro u hu;simp at hu;subst hu;rfl)
     case c1=>have:=H.o.2.2.2.2.2.2.2.2.2.2.2.1;unfold maxLen;omega
     case c2=>have:=H.o.2.2.2.2.2.2.2.2.2.2.2.1;omega
     case c3=>rfl
     intro pv' w' g1 g2 g3
     obtain ⟨pa',pc',rfl⟩:=zh g1
     have bp:Below w.heap.size w w':=H.o.2.2.2.2.2.2.2.2.2.2.1.trans (g2.toBelow H.o.2.2.2.2.2.2.2.2.2.2.1.size (fun k _ hk=>(H.o.2.2.2.2.2.2.1.lt k hk.symm).1))
     have eB:=zih H.o.2.2.2.2.2.2.2.2.2.1 g2 H.o.2.2.2.2.2.2.2.1 H.o.2.2.2.2.2.2.2.2.1
     have hA:zaq (.slice pa' (part.length+1) pc') u3:=(zdd H.o.2.2.2.2.2.2.2.1.symm H.o.2.2.2.2.2.2.2.2.2.1.2.1 g3).symm
     have AZ:∀ u∈vs,zaq (.slice pa' (part.length+1) pc') u:=fun u hu=>by
      obtain ⟨n,hn,rfl⟩:=List.mem_iff_getElem.1 hu
      have hg:=H.o.2.2.2.2.2.2.2.2.2.1
      exact (zdd (H.o.2.2.2.2.2.2.2.2.1 _ hu).symm (hg.2.2 n (by rw [<- hg.1];exact hn) hn).1 g3).symm
     have H2:=Hy (An (show w'.ownsRow w.heap.size 9 1 (.slice pa' (part.length+1) pc') (part++[zQ s f i]).length (sc (part++[zQ s f i])) by rw [zei,List.length_append];exact g1) (An hA (An AZ (An eB bp))))
     clear g1 g2 g3 bp eB hA AZ
     go_wp2
     refine ⟨⟨i+1,i+1,part++[zQ s f i],by omega,by omega,by omega,by omega,rfl,⟨by go_num,by go_num⟩,H2.o.1,H2.o.2.1,H2.o.2.2.1,H2.o.2.2.2.1,H2.o.2.2.2.2,?_,by rw [<- HI.o];exact H.o.2.2.2.2.2.2.2.2.2.2.2.2⟩,by simp [intOf];omega⟩
     have:=H.o.2.2.2.2.2.2.2.2.2.2.2.1
     simp;omega
    have q2:((c.toNat:Int)==43)=false:=by rw [beq_eq_false_iff_ne];intro hh;apply ll;apply UInt8.toNat_inj.1;show _=43;omega
    by_cases fC:c=44
    ·have q3:((c.toNat:Int)==44)=true:=by rw [fC];rfl
     have HI:=Hy (HC.o.2.2.1 fC)
     clear ll bE fC
     go_wp2_with (at_builtin;refine zaM rfl (.tmp 35) (.tmp 40) 47 9 rfl w.heap.size 1 16 (.string ByteArray.empty) Tryz.dninfo9 underlying47 rfl De [.string ⟨(zQ s f i).toArray⟩] rfl ?c0 _ part.length _ rfl _ rfl ?c3 H.o.2.2.2.2.2.2.1 ?c1 ?c2 H.o.2.2.2.2.2.2.2.2.2.2.1.size ?_)
     case c0=>first | rfl | (intro u hu;simp at hu;subst hu;rfl)
     case c1=>have:=H.o.2.2.2.2.2.2.2.2.2.2.2.1;unfold maxLen;omega
     case c2=>have:=H.o.2.2.2.2.2.2.2.2.2.2.2.1;omega
     case c3=>rfl
     intro pv' w' g1 g2 g3
     obtain ⟨pa',pc',rfl⟩:=zh g1
     have bp:Below w.heap.size w w':=H.o.2.2.2.2.2.2.2.2.2.2.1.trans (g2.toBelow H.o.2.2.2.2.2.2.2.2.2.2.1.size (fun k _ hk=>(H.o.2.2.2.2.2.2.1.lt k hk.symm).1))
     have eB:=zih H.o.2.2.2.2.2.2.2.2.2.1 g2 H.o.2.2.2.2.2.2.2.1 H.o.2.2.2.2.2.2.2.2.1
     have hA:zaq (.slice pa' (part.length+1) pc') u3:=(zdd H.o.2.2.2.2.2.2.2.1.symm H.o.2.2.2.2.2.2.2.2.2.1.2.1 g3).symm
     obtain ⟨va,vc,hv⟩:=zh eB.2.1
     have H2:=Hy (An (show w'.ownsRow w.heap.size 9 1 (.slice pa' (part.length+1) pc') (part++[zQ s f i]).length (sc (part++[zQ s f i])) by rw [zei,List.length_append];exact g1) (An hA (An eB bp)))
     clear g1 g2 g3 bp eB hA hv
     go_wp2_with (at_builtin;refine zaM rfl (.tmp 34) (.tmp 42) 156 47 rfl w.heap.size 1 24 (.slice none 0 0) Tryz.dninfo47 underlying156 rfl De [.slice pa' (part.length+1) pc'] rfl ?c0 _ ps.length _ rfl _ rfl ?c3 H2.o.2.2.1.2.1 ?c1 ?c2 H2.o.2.2.2.size ?_)
     case c0=>first | rfl | (intro u hu;simp at hu;subst hu;rfl)
     case c1=>have:=H.o.2.2.2.2.2.2.2.2.2.2.2.1;unfold maxLen;omega
     case c2=>have:=H.o.2.2.2.2.2.2.2.2.2.2.2.1;omega
     case c3=>rfl
     intro v2 w2 g1 g2 g3
     have fP:=znO H2.o.2.2.1 H2.o.1 H2.o.2.1 g1 g2 g3
     have ak:Below w.heap.size w w2:=H2.o.2.2.2.trans (g2.toBelow H2.o.2.2.2.size (fun k _ hk=>(H2.o.2.2.1.2.1.lt k hk.symm).1))
     obtain ⟨va2,vc2,rfl⟩:=zh g1
     have H3:=Hy (An fP ak)
     clear g1 g2 g3 fP ak
     go_wp2
     refine ⟨⟨_,_,i+1,by omega,by go_num,H3.o.1,H3.o.2,?_,?_⟩,by simp [intOf];omega⟩
     ·have:=H.o.2.2.2.2.2.2.2.2.2.2.2.1
      simp;omega
     have h9:=H.o.2.2.2.2.2.2.2.2.2.2.2.2
     rw [HI.o] at h9
     rw [<- h9];simp
    have q3:((c.toNat:Int)==44)=false:=by rw [beq_eq_false_iff_ne];intro hh;apply fC;apply UInt8.toNat_inj.1;show _=44;omega
    have HI:=Hy (HC.o.2.2.2 bE ll fC)
    clear ll bE fC
    go_wp2
    refine ⟨⟨f,i+1,part,by omega,hf,by omega,Ep,rfl,⟨by go_num,rfl⟩,H.o.2.2.2.2.2.2.1,H.o.2.2.2.2.2.2.2.1,H.o.2.2.2.2.2.2.2.2.1,H.o.2.2.2.2.2.2.2.2.2.1,H.o.2.2.2.2.2.2.2.2.2.2.1,H.o.2.2.2.2.2.2.2.2.2.2.2.1,by rw [<- HI.o];exact H.o.2.2.2.2.2.2.2.2.2.2.2.2⟩,by simp [intOf];omega⟩
   have cW:¬ ((i:Int)<(s.size:Int)):=by omega
   have fD:(f:Int)<=(s.size:Int):=by omega
   have lU:=HE.o f s.size
   change s.extract f s.size=⟨(zQ s f s.size).toArray⟩ at lU
   have H:=Hy (An rY (An hf (An hi (An Ep (An hv (An hp (An ab (An ia (An qM (An bC (An hb (An aF hinv))))))))))))
   have HI:=Hy (zr4 s part f i Om)
   clear ab ia qM bC hb aF hinv hv hp
   go_wp2_with (at_builtin;refine zaM rfl (.tmp 47) (.tmp 51) 47 9 rfl w.heap.size 1 16 (.string ByteArray.empty) Tryz.dninfo9 underlying47 rfl De [.string ⟨(zQ s f s.size).toArray⟩] rfl ?c0 _ part.length _ rfl _ rfl ?c3 H.o.2.2.2.2.2.2.1 ?c1 ?c2 H.o.2.2.2.2.2.2.2.2.2.2.1.size ?_)
   case c0=>first | rfl | (intro u hu;simp at hu;subst hu;rfl)
   case c1=>have:=H.o.2.2.2.2.2.2.2.2.2.2.2.1;unfold maxLen;omega
   case c2=>have:=H.o.2.2.2.2.2.2.2.2.2.2.2.1;omega
   case c3=>rfl
   intro pv' w' g1 g2 g3
   obtain ⟨pa',pc',rfl⟩:=zh g1
   have bp:Below w.heap.size w w':=H.o.2.2.2.2.2.2.2.2.2.2.1.trans (g2.toBelow H.o.2.2.2.2.2.2.2.2.2.2.1.size (fun k _ hk=>(H.o.2.2.2.2.2.2.1.lt k hk.symm).1))
   have eB:=zih H.o.2.2.2.2.2.2.2.2.2.1 g2 H.o.2.2.2.2.2.2.2.1 H.o.2.2.2.2.2.2.2.2.1
   have hA:zaq (.slice pa' (part.length+1) pc') u3:=(zdd H.o.2.2.2.2.2.2.2.1.symm H.o.2.2.2.2.2.2.2.2.2.1.2.1 g3).symm
   obtain ⟨va,vc,hv⟩:=zh eB.2.1
   have H2:=Hy (An (show w'.ownsRow w.heap.size 9 1 (.slice pa' (part.length+1) pc') (part++[zQ s f s.size]).length (sc (part++[zQ s f s.size])) by rw [zei,List.length_append];exact g1) (An hA (An eB bp)))
   clear g1 g2 g3 bp eB hA hv
   go_wp2_with (at_builtin;refine zaM rfl (.tmp 46) (.tmp 53) 156 47 rfl w.heap.size 1 24 (.slice none 0 0) Tryz.dninfo47 underlying156 rfl De [.slice pa' (part.length+1) pc'] rfl ?c0 _ ps.length _ rfl _ rfl ?c3 H2.o.2.2.1.2.1 ?c1 ?c2 H2.o.2.2.2.size ?_)
   case c0=>first | rfl | (intro u hu;simp at hu;subst hu;rfl)
   case c1=>have:=H.o.2.2.2.2.2.2.2.2.2.2.2.1;unfold maxLen;omega
   case c2=>have:=H.o.2.2.2.2.2.2.2.2.2.2.2.1;omega
   case c3=>rfl
   intro v2 w2 g1 g2 g3
   have fP:=znO H2.o.2.2.1 H2.o.1 H2.o.2.1 g1 g2 g3
   have ak:Below w.heap.size w w2:=H2.o.2.2.2.trans (g2.toBelow H2.o.2.2.2.size (fun k _ hk=>(H2.o.2.2.1.2.1.lt k hk.symm).1))
   obtain ⟨va2,vc2,rfl⟩:=zh g1
   have H3:=Hy (An fP ak)
   clear g1 g2 g3 fP ak
   go_wp2
   rw [Exit.noGoto_ret]
   go_ret
   have h9:=H.o.2.2.2.2.2.2.2.2.2.2.2.2
   rw [HI.o] at h9
   have lk:=H3.o.1
   rw [h9] at lk
   exact zr6 lk H3.o.2
theorem zr8 (l:Bs) (c:UInt8):(Lib.indexByte l c = -1/\zbo c l=l/\zba c l=[])\/∃ k:Nat,Lib.indexByte l c=(k:Nat)/\k<l.length/\zbo c l=l.take k/\zba c l=l.drop (k+1):=by
 induction l with
 | nil=>exact .inl ⟨rfl,rfl,rfl⟩
 | cons b r ih =>
  by_cases h:b=c
  ·refine .inr ⟨0,?_,by simp,?_,?_⟩
   ·simp [Lib.indexByte,h]
   ·simp [zbo,h]
   simp [zba,h]
  rcases ih with ⟨h1,h2,h3⟩ | ⟨k,h1,h2,h3,h4⟩
  ·refine .inl ⟨?_,?_,?_⟩
   ·simp [Lib.indexByte,h,h1]
   ·simp [zbo,h] at h2 ⊢;exact h2
   simp [zba,h] at h3 ⊢;exact h3
  refine .inr ⟨k+1,?_,by simp;omega,?_,?_⟩
  ·have:¬ Lib.indexByte r c = -1:=by omega
   simp [Lib.indexByte,h,h1,this] <;> omega
  ·simp [zbo,h] at h3 ⊢;exact h3
  simp [zba,h] at h4 ⊢;exact h4
theorem zr9 (s:ByteArray) (w:World):Calls prog 235 #[.string s,.string ⟨#[61]⟩] w (zcE (Lib.indexByte s.data.toList 61) w):=by
 have HC:=Hy (znW s 61)
 by_cases h:s.data.toList=[61]
 ·have ht:([61]==s.toList)=true:=by rw [ByteArray.toList_eq,h];rfl
  have H:=Hy (show Lib.indexByte s.data.toList 61=0 by rw [h];rfl)
  clear h HC
  go_enter func235,ntmps235
  go_wp2
  go_ret
  exact ⟨by rw [H.o];rfl,rfl⟩
 have ht:([61]==s.toList)=false:=by rw [ByteArray.toList_eq,beq_eq_false_iff_ne];exact fun hh=>h hh.symm
 clear h
 go_enter func235,ntmps235
 exact zlm
def zlr (l:Bs) (w:World) (en:Ending) (w':World):Prop:=(∃ b,en=.returned (.tuple #[.string ⟨(zbo 61 l).toArray⟩,.string ⟨(zba 61 l).toArray⟩,.bool b]))/\Below w.heap.size w w'
theorem zsa (s:ByteArray) (hs:s.size<=140737488355328) (w:World):Calls prog 218 #[.string s,.string ⟨#[61]⟩] w (zlr s.data.toList w):=by
 have HC:=Hy (zr9 s)
 have hl:=zl s
 rcases zr8 s.data.toList 61 with ⟨h1,h2,h3⟩ | ⟨k,h1,h2,h3,h4⟩
 ·rw [h1] at HC
  have H:=Hy (An h2 h3)
  clear h1 h2 h3 hl
  go_enter func218,ntmps218
  go_wp2_with fail
  refine (HC.o _).mono ?_
  rintro e w1 ⟨rfl,hw⟩
  obtain rfl:=hw.symm
  go_wp2
  go_ret3
  refine ⟨⟨false,?_⟩,Br _⟩
  rw [H.o.1,H.o.2,zbD]
  rfl
 rw [h1] at HC
 have H:=Hy (An h3 h4)
 have q0:(0:Int)<=(k:Int):=by omega
 have q1:(k:Int)<=(s.size:Int):=by omega
 have q2:(k:Int)+1<=(s.size:Int):=by omega
 have q3:(0:Int)<=(k:Int)+1:=by omega
 have q4:(k:Int)<(s.size:Int):=by omega
 have hW:IntKind.i64.wrap ((k:Int)+1)=(k:Int)+1:=by rw [IntKind.wrap_i64];omega
 have e1:s.extract 0 k=⟨(zbo 61 s.data.toList).toArray⟩:=by rw [<- zbD (s.extract 0 k),Lib.extract_data,List.drop_zero,h3];rfl
 have e2:s.extract (k+1) s.size=⟨(zba 61 s.data.toList).toArray⟩:=by rw [<- zbD (s.extract (k+1) s.size),Lib.extract_to_end,h4]
 clear h1 h2 h3 h4 hl
 go_enter func218,ntmps218
 go_wp2_with fail
 refine (HC.o _).mono ?_
 rintro e w1 ⟨rfl,hw⟩
 obtain rfl:=hw.symm
 go_wp2
 go_quiet (fail)
 go_wp2
 go_ret3
 exact ⟨⟨_,rfl⟩,zae (Br _) nq⟩
theorem zsb (s:ByteArray) (hs:s.size<=140737488355328) (w:World):Calls prog 192 #[.string s,.string ⟨#[61]⟩] w (zlr s.data.toList w):=by
 have HC:=Hy (zsa s hs)
 go_enter func192,ntmps192
 go_wp2_with fail
 refine (HC.o _).mono ?_
 rintro e w1 ⟨⟨b,rfl⟩,hb⟩
 go_wp2
 go_ret3
 exact ⟨⟨b,rfl⟩,hb⟩
theorem zcP (c:UInt8) (l:Bs):tlB (c :: l)=if c=32 then tlB l else c :: l:=by
 unfold tlB
 by_cases h:c=32 <;> simp [h]
theorem zls (l:Bs) (c:UInt8):trB (l++[c])=if c=32 then trB l else l++[c]:=by
 unfold trB
 by_cases h:c=32 <;> simp [h]
def zcw (l:Bs) (w:World) (en:Ending) (w':World):Prop:=en=.returned (.string ⟨l.toArray⟩)/\w'=w
theorem zdp {l:Bs} {x:ByteArray} (h1:l=x.data.toList):zcw l w (.returned (.string x)) w:=by
 refine ⟨?_,rfl⟩
 rw [h1,zbD]
theorem zlt (x:ByteArray) (h:0<x.size):x.data.toList=(x.extract 0 (x.size - 1)).data.toList++[x[x.size - 1]]:=by
 have hl:=zl x
 rw [Lib.extract_data,List.drop_zero]
 have h2:=zdb x (x.size - 1) Om
 rw [show x.size - 1+1=x.size by omega,List.take_of_length_le Om] at h2
 exact h2
theorem zlu (s:ByteArray) (w:World):Calls prog 214 #[.string s,.int .u8 32] w (zcw (tlB s.data.toList) w):=by
 obtain ⟨L,hL⟩:=Ex s.data.toList
 rw [hL]
 go_enter func214,ntmps214
 go_wp2
 go_loop [0] (fun v=>∃ x:ByteArray,v=.string x/\tlB x.data.toList=tlB L) (fun v=>zds v)
 case atStart=>exact ⟨s,rfl,by rw [hL]⟩
 case round =>
  obtain ⟨x,rfl,hx⟩:=hrel
  by_cases h:x.size=0
  ·have hn:x.data.toList=[]:=List.eq_nil_of_length_eq_zero (by rw [zl];exact h)
   rw [hn] at hx
   have H:=Hy (hx.symm.trans (show tlB []=x.data.toList by rw [hn];rfl))
   clear hx hn
   go_wp2
   go_ret
   exact zdp H.o
  have hp:0<x.size:=by omega
  have h1:1<=x.size:=hp
  have h2:(0:Int)<(x.size:Int):=by omega
  have h3:(1:Int)<=(x.size:Int):=by omega
  have hcut:=zcX x hp
  rw [hcut,zcP] at hx
  have hb:=x[0].toNat_lt
  by_cases h0:x[0]=32
  ·rw [if_pos h0] at hx
   have ht:((x[0].toNat:Int)==32)=true:=by rw [h0];rfl
   have H:=Hy hx
   obtain ⟨c,hc⟩:=Ex (x[0].toNat)
   rw [hc] at ht hb
   clear hx hcut h0 h
   go_wp2
   refine ⟨⟨_,rfl,H.o⟩,?_⟩
   show (x.extract 1 x.size).size<x.size
   rw [<- zl (x.extract 1 x.size),Lib.extract_to_end,List.length_drop,zl];omega
  rw [if_neg h0] at hx
  have ht:((x[0].toNat:Int)==32)=false:=by
   exact zln
  rw [<- hcut] at hx
  have H:=Hy hx
  clear hx hcut h0 h
  go_wp2
  go_ret
  exact zdp H.o.symm
theorem zsc (s:ByteArray) (hs:s.size<=140737488355328) (w:World):Calls prog 219 #[.string s,.int .u8 32] w (zcw (trB s.data.toList) w):=by
 obtain ⟨L,hL⟩:=Ex s.data.toList
 rw [hL]
 go_enter func219,ntmps219
 go_wp2
 go_loop [0] (fun v=>∃ x:ByteArray,v=.string x/\x.size<=140737488355328/\trB x.data.toList=trB L) (fun v=>zds v)
 case atStart=>exact ⟨s,rfl,hs,by rw [hL]⟩
 case round =>
  obtain ⟨x,rfl,lV,hx⟩:=hrel
  by_cases h:x.size=0
  ·have hn:x.data.toList=[]:=List.eq_nil_of_length_eq_zero (by rw [zl];exact h)
   rw [hn] at hx
   have H:=Hy (hx.symm.trans (show trB []=x.data.toList by rw [hn];rfl))
   clear hx hn
   go_wp2
   go_ret
   exact zdp H.o
  have hp:0<x.size:=by omega
  obtain ⟨n,hn⟩:∃ n,x.size=n+1:=⟨x.size - 1,by omega⟩
  have hcut:=zlt x hp
  have eU:x[x.size - 1]=x[n]'Om:=by congr 1;omega
  rw [hcut,zls,eU] at hx
  rw [eU] at hcut
  have hb:=(x[n]'Om).toNat_lt
  have gF:x.extract 0 (x.size - 1)=x.extract 0 n:=by rw [hn];rfl
  rw [gF] at hx hcut
  by_cases h0:x[n]'Om=32
  ·rw [if_pos h0] at hx
   have ht:(((x[n]'Om).toNat:Int)==32)=true:=by rw [h0];rfl
   have hz:(x.extract 0 n).size=n:=by rw [<- zl (x.extract 0 n),Lib.extract_data,List.drop_zero,List.length_take,zl];omega
   have H:=Hy (An hx hz)
   clear hx hcut h0 h eU gF hz
   go_wp2
   refine ⟨⟨_,rfl,by rw [H.o.2];omega,H.o.1⟩,?_⟩
   show (x.extract 0 n).size<x.size
   rw [H.o.2,hn];omega
  rw [if_neg h0] at hx
  have ht:(((x[n]'Om).toNat:Int)==32)=false:=by
   exact zln
  rw [<- hcut] at hx
  have H:=Hy hx
  clear hx hcut h0 h eU gF
  go_wp2
  go_ret
  exact zdp H.o.symm
theorem zsd (s:ByteArray) (w:World):Calls prog 191 #[.string s,.string ⟨#[32]⟩] w (zcw (tlB s.data.toList) w):=by
 by_cases h0:s.size=0
 ·have dS:=zcF s h0
  have hn:s.data.toList=[]:=List.eq_nil_of_length_eq_zero (by rw [zl];exact h0)
  have H:=Hy (show tlB s.data.toList=s.data.toList by rw [hn];rfl)
  clear hn h0
  go_enter func191,ntmps191
  go_wp2
  go_ret
  exact zdp H.o
 have dS:=zbW s Om
 have HC:=Hy (zlu s)
 clear h0
 go_enter func191,ntmps191
 exact zlm
theorem zse (l:Bs):(trB l).length<=l.length:=by
 unfold trB
 rw [List.length_reverse]
 exact Nat.le_trans (List.dropWhile_sublist _).length_le Sm
theorem zlv (l:Bs):(tlB l).length<=l.length:=(List.dropWhile_sublist _).length_le
theorem zsf (s:ByteArray) (hs:s.size<=140737488355328) (w:World):Calls prog 193 #[.string s,.string ⟨#[32]⟩] w (zG (tlB (trB s.data.toList)) w):=by
 by_cases h0:s.size=0
 ·have dS:=zcF s h0
  have hn:s.data.toList=[]:=List.eq_nil_of_length_eq_zero (by rw [zl];exact h0)
  have H:=Hy (show tlB (trB s.data.toList)=s.data.toList by rw [hn];rfl)
  clear hn h0
  go_enter func193,ntmps193
  go_wp2
  go_ret
  exact ⟨by rw [H.o,zbD];rfl,Br _⟩
 have dS:=zbW s Om
 have HR:=Hy (zsc s hs)
 have HL:=Hy (zlu ⟨(trB s.data.toList).toArray⟩)
 change Hd (∀ w,Calls prog _ _ w (zcw (tlB (trB s.data.toList)) w)) at HL
 obtain ⟨R,hR⟩:=Ex (trB s.data.toList)
 rw [hR] at HR HL ⊢
 clear h0 hR
 go_enter func193,ntmps193
 go_wp2
 go_quiet (first | (go_at_call 219;exact Calls.quiet_of_same (HR.o _)) | (go_at_call 214;exact Calls.quiet_of_same (HL.o _)))
 go_wp2
 go_ret
 exact ⟨rfl,zae (Br _) nq⟩
end Go.Proofs.YtijglbolppkefaaGreatDoor
