/- A value's text read, for every. -/
import Derived.Test.YtijglbolppkefaaGreatDoorDqF
import Derived.Test.YtijglbolppkefaaGreatDoorMDqA
import Derived.Test.YtijglbolppkefaaGreatDoorDqE
import Derived.StillTailTactics
import Derived.Test.YtijglbolppkefaaGreatDoorDqC
set_option linter.unusedVariables false
set_option linter.unusedSimpArgs false
set_option maxHeartbeats 25600000
set_option maxRecDepth 100000
namespace Go.Proofs.YtijglbolppkefaaGreatDoor
open Go.Proofs.Tryz
open Go Go.RowKit Go.Proofs.BerK Go.Proofs.MemK Go.Proofs.UtfK
variable {B g m n : Nat} {w w' : World} {a b : Value} {e e1 e2 t : TypeId} {gs : List Nat} {D : List (List Av)} {ps : List (List (Bs))} {o : Option (List (List Av))} {p : List (List Av) × Nat}
theorem zlI {p:Prop} (h:p:=by
 rintro e w2 ⟨rfl,hw⟩
 obtain rfl:=hw.symm
 go_wp2_with (at_builtin;refine zaj rfl (.tmp 55) (.tmp 57) 176 5 rfl w.heap.size 1 1 (.int .u8 0) Tryz.info5 underlying176 rfl De 1 [.int .u8 (c.toNat:Int)] rfl ?c0 _ out.length _ rfl _ rfl ?c3 H.o.1 ?c1 ?c2 H.o.2.1.size ?_)
 case c0=>first | rfl | (intro u hu;simp at hu;subst hu;rfl)
 case c1=>unfold maxLen;omega
 case c2=>omega
 case c3=>rfl
 intro v' w' g1 g2
 obtain ⟨va,vc,rfl⟩:=zh g1
 have g3:w'.ownsRow w.heap.size 5 1 (.slice va (out.length+1) vc) (out++[c]).length (bc (out++[c])):=by rw [zbU,List.length_append];exact g1
 have H2:=Hy (An g3 (H.o.2.1.trans g2))
 clear g1 g2 g3
 go_wp2
 refine ⟨⟨k+1,out.length+1,out++[c],by omega,by go_num,by go_num,by simp,by simp;omega,H2.o.1,H2.o.2,by rw [HK.o.1];exact HI.o⟩,by simp [intOf];omega⟩):p:=h
theorem zlJ {p:Prop} (h:p:=by
 obtain ⟨b0,b1⟩:=zao aD
 have f0:=zc aD 0
 have f1:=zc aD 1
 have HF:=Hy (An (HW.o.2.trans (ai.mono HW.o.2.size)) (zci aD (.string ⟨#[]⟩) (.string ⟨#[]⟩)))
 clear ai aD
 go_wp2
 obtain ⟨g0,g1⟩:=zao HF.o.2
 refine bodyPost_ret (v:=RpV (none)) (by simp [results,results167,go_sem,RpV, *]) rfl ⟨?_,zcQ HF.o.1 Lr _ _⟩
 rfl):p:=h
theorem zlK {p:Prop} (h:p:=by
 rintro e w2 ⟨rfl,hw⟩
 obtain rfl:=hw.symm
 go_wp2
 go_ret2
 exact ⟨by rw [HI.o];rfl,H.o.2.1⟩):p:=h
def rvT (out:Bs) (size:Nat) (f:Bool) (l:Bs):Option (Bs):=(rvG f l).map fun v=>if v=[] then out.take size else out++v
theorem zlL (f:Bool) (r:Bs):rvG f (32 :: r)=(rvG false r).map fun v=>if v=[] then [] else 32 :: v:=by
 conv=>lhs;unfold rvG
 cases r with
 | nil=>simp
 | cons d r=>cases r <;> simp
theorem zek (f:Bool) (r:Bs):rvG f (92 :: r)=match rmL r with | none=>none | some (c,n)=>(rvG false (r.drop n)).map (c :: ·):=by
 conv=>lhs;unfold rvG
 cases r with
 | nil=>simp [rmL]
 | cons d r =>
  cases r with
  | nil=>by_cases h:zaO d.toNat=true <;> simp [rmL,h]
  | cons e r =>
   by_cases h:zaO d.toNat=true
   ·simp [rmL,h]
   by_cases h2:hxN d.toNat<16/\hxN e.toNat<16 <;> simp [rmL,h,h2]
theorem zii (f:Bool) (c:UInt8) (r:Bs) (h1:c≠32) (h2:c≠92) (h:zau c.toNat=true\/(c≠61/\mkN f false c.toNat=true)):rvG f (c :: r)=none:=by
 conv=>lhs;unfold rvG
 cases r with
 | nil=>rw [if_neg h1,if_neg h2,if_pos h]
 | cons d r=>cases r <;> (rw [if_neg h1,if_neg h2,if_pos h])
theorem zf6 (f:Bool) (c:UInt8) (r:Bs) (h1:c≠32) (h2:c≠92) (h:¬ (zau c.toNat=true\/(c≠61/\mkN f false c.toNat=true))):rvG f (c :: r)=(rvG false r).map (c :: ·):=by
 conv=>lhs;unfold rvG
 cases r with
 | nil=>rw [if_neg h1,if_neg h2,if_neg h]
 | cons d r=>cases r <;> (rw [if_neg h1,if_neg h2,if_neg h])
theorem zlM (out:Bs) (size:Nat) (f:Bool) (r:Bs) (h:size<=out.length):rvT out size f (32 :: r)=rvT (out++[32]) size false r:=by
 unfold rvT
 rw [zlL,Option.map_map]
 congr 1
 funext v
 simp only [Function.comp]
 by_cases hv:v=[]
 ·subst hv;simp [List.take_append_of_le_length h]
 simp [hv]
theorem zfd (out:Bs) (size:Nat) (f:Bool) (c:UInt8) (l r:Bs) (h:rvG f l=(rvG false r).map (c :: ·)):rvT out size f l=rvT (out++[c]) (out.length+1) false r:=by
 unfold rvT
 rw [h,Option.map_map]
 congr 1
 funext v
 simp only [Function.comp]
 by_cases hv:v=[]
 ·subst hv;rw [if_neg Sm,if_pos rfl,List.take_of_length_le Sm]
 simp [hv]
theorem zfe (out:Bs) (size:Nat) (f:Bool) (l:Bs) (h:rvG f l=none):rvT out size f l=none:=by rw [rvT,h];rfl
theorem zlN (out:Bs) (size:Nat) (f:Bool):rvT out size f []=some (out.take size):=by simp [rvT,rvG]
theorem zlO (l:Bs):rvT [] 0 true l=rvG true l:=by
 unfold rvT
 cases h:rvG true l with
 | none=>rfl
 | some v=>by_cases hv:v=[] <;> simp [hv]
theorem zsr {l:Bs} {c:UInt8} (h:rmL l=some (c,n)):1<=n/\n<=2/\n<=l.length:=by
 cases l with
 | nil=>simp [rmL] at h
 | cons d r =>
  by_cases hm:zaO d.toNat=true
  ·rw [zgZ _ _ hm] at h;injection h with h;injection h with _ h;subst h;simp
  cases r with
  | nil=>rw [zjN _ hm] at h;cases h
  | cons e r =>
   rw [zfG _ _ _ hm] at h
   split at h
   ·injection h with h;injection h with _ h;subst h;simp
   cases h
theorem zlP (a b b':Bool) (c:Nat) (h:c≠32):mkN a b c=mkN a b' c:=by simp [mkN,h]
def RvV:Option (Bs)->Value
 | none=>.tuple #[.string ⟨#[]⟩,.bool false]
 | some v=>.tuple #[.string ⟨v.toArray⟩,.bool true]
def zf7 (o:Option (Bs)) (w:World) (en:Ending) (w':World):Prop:=en=.returned (RvV o)/\Below w.heap.size w w'
theorem zss (s:ByteArray) (hs:s.size<=140737488355328) (w:World) (he:zD w) :
  Calls prog 195 #[.string s] w (zf7 (rvL s.data.toList) w):=by
 have HT:=Hy (zsd s)
 have LF:rvL s.data.toList=rvT [] 0 true (tlB s.data.toList):=by rw [zlO];rfl
 obtain ⟨x,hx⟩:∃ x:ByteArray,x=⟨(tlB s.data.toList).toArray⟩:=⟨_,rfl⟩
 have gZ:x.data.toList=tlB s.data.toList:=by rw [hx]
 have lV:x.size<=140737488355328:=by
  rw [<- zl x,gZ]
  have:=zlv s.data.toList
  rw [zl] at this;omega
 rw [LF,<- gZ]
 change Hd (∀ w,Calls prog _ _ w fun en w'=>en=.returned (.string ⟨(tlB s.data.toList).toArray⟩)/\w'=w) at HT
 rw [<- hx] at HT
 have HE:=Hy he
 clear LF hx gZ hs he
 go_enter func195,ntmps195
 go_wp2_with fail
 refine (HT.o _).mono ?_
 rintro e w1 ⟨rfl,hw⟩
 obtain rfl:=hw.symm
 go_wp2
 go_loopw [4,5,6] (fun o z v wr=>∃ (k n:Nat) (out:Bs),k<=x.size/\v=.int .i64 (k:Nat)/\z=.int .i64 (n:Nat)/\n<=out.length/\out.length<=k/\wr.ownsRow w.heap.size 5 1 o out.length (bc out)/\Below w.heap.size w wr /\
  rvT out n (decide (k=0)) (x.data.toList.drop k)=rvT [] 0 true x.data.toList) (fun _ _ v _=>x.size - (intOf v).toNat)
 case atStart=>exact ⟨0,0,[],by omega,rfl,rfl,by simp,by simp,World.ownsRow_nil _ _ _ _,Br _,rfl⟩
 case round =>
  obtain ⟨k,n,out,hk,rfl,rfl,hn,aS,ab,hb,hinv⟩:=hrel
  by_cases aj:k<x.size
  ·have hl:=zl x
   have bh:(k:Int)<(x.size:Int):=by omega
   have h8:x[k].toNat<256:=x[k].toNat_lt
   have hd:=zO x.data.toList k Om
   rw [zay x k aj] at hd
   rw [hd] at hinv
   have HEr:=Hy (zlA HE.o hb (Nat.lt_of_lt_of_le (Lib.lt_of_cell HE.o.choose_spec.1) Lr))
   have H:=Hy (An ab (An hb (An hn aS)))
   have HM:=Hy (zn0 x k aj lV)
   have HK:=Hy (An (show decide (k+1=0)=false by simp) hd)
   clear ab hb hd hl
   obtain ⟨c,hc⟩:=Ex (x[k])
   rw [hc] at h8 hinv HM
   by_cases bA:c=32
   ·have q:((c.toNat:Int)==32)=true:=by rw [bA];rfl
    rw [bA,zlM _ _ _ _ hn] at hinv
    have HI:=Hy hinv
    have HC:=Hy bA
    clear hinv bA
    go_wp2_with (at_builtin;refine zaj rfl (.tmp 23) (.tmp 25) 176 5 rfl w.heap.size 1 1 (.int .u8 0) Tryz.info5 underlying176 rfl De 1 [.int .u8 (c.toNat:Int)] rfl ?c0 _ out.length _ rfl _ rfl ?c3 H.o.1 ?c1 ?c2 H.o.2.1.size ?_)
    case c0=>first | rfl | (intro u hu;simp at hu;subst hu;rfl)
    case c1=>unfold maxLen;omega
    case c2=>omega
    case c3=>rfl
    intro v' w' g1 g2
    have g3:w'.ownsRow w.heap.size 5 1 v' (out++[32]).length (bc (out++[32])):=by rw [zbU,List.length_append];rw [HC.o] at g1;exact g1
    have H2:=Hy (An g3 (H.o.2.1.trans g2))
    clear g1 g2 g3
    go_wp2
    refine ⟨⟨k+1,n,out++[32],by omega,by go_num,rfl,by simp;omega,by simp;omega,H2.o.1,H2.o.2,by rw [HK.o.1];exact HI.o⟩,by simp [intOf];omega⟩
   have q:((c.toNat:Int)==32)=false:=by rw [beq_eq_false_iff_ne];intro hh;apply bA;apply UInt8.toNat_inj.1;show _=32;omega
   by_cases bE:c=92
   ·have q2:((c.toNat:Int)==92)=true:=by rw [bE];rfl
    rw [bE] at hinv
    have lU:(x.extract (k+1) x.size).data.toList=x.data.toList.drop (k+1):=Lib.extract_to_end x (k+1)
    have HR:=Hy (zsq (x.extract (k+1) x.size) wr HEr.o)
    rw [lU] at HR
    have fM:(k:Int)+1<=(x.size:Int):=by omega
    have cX:(0:Int)<=(k:Int)+1:=by omega
    cases gQ:rmL (x.data.toList.drop (k+1)) with
    | none =>
     rw [gQ] at HR
     have HI:=Hy (show rvT [] 0 true x.data.toList=none by rw [<- hinv];exact zfe _ _ _ _ (by rw [zek,gQ]))
     change Hd (Calls prog _ _ wr fun en w'=>en=.returned (.tuple #[.int .u8 0,.int .i64 0])/\Below wr.heap.size wr w') at HR
     clear hinv bE bA gQ lU
     go_wp2_with fail
     refine HR.o.mono ?_
     rintro e w2 ⟨rfl,ak⟩
     go_wp2
     go_ret2
     exact ⟨by rw [HI.o];rfl,H.o.2.1.trans (ak.mono H.o.2.1.size)⟩
    | some q =>
     obtain ⟨c',n'⟩:=q
     rw [gQ] at HR
     have bP:=zsr gQ
     rw [List.length_drop,zl] at bP
     have HI:=Hy (show rvT (out++[c']) (out.length+1) false (x.data.toList.drop (k+1+n'))=rvT [] 0 true x.data.toList by
      rw [<- hinv,<- List.drop_drop];exact (zfd _ _ _ c' _ _ (by rw [zek,gQ])).symm)
     change Hd (Calls prog _ _ wr fun en w'=>en=.returned (.tuple #[.int .u8 (c'.toNat:Nat),.int .i64 (n':Nat)])/\Below wr.heap.size wr w') at HR
     have mI:((n':Int)==0)=false:=by rw [beq_eq_false_iff_ne];omega
     have kE:(n':Int)<=2:=by omega
     clear hinv bE bA gQ lU
     go_wp2_with fail
     refine HR.o.mono ?_
     rintro e w2 ⟨rfl,ak⟩
     have bw:=Hy (An (zu H.o.1 ak) (H.o.2.1.trans (ak.mono H.o.2.1.size)))
     clear ak
     go_wp2_with (at_builtin;refine zaj rfl (.tmp 55) (.tmp 57) 176 5 rfl w.heap.size 1 1 (.int .u8 0) Tryz.info5 underlying176 rfl De 1 [.int .u8 (c'.toNat:Int)] rfl ?c0 _ out.length _ rfl _ rfl ?c3 bw.o.1 ?c1 ?c2 bw.o.2.size ?_)
     case c0=>first | rfl | (intro u hu;simp at hu;subst hu;rfl)
     case c1=>unfold maxLen;omega
     case c2=>omega
     case c3=>rfl
     intro v' w' g1 g2
     obtain ⟨va,vc,rfl⟩:=zh g1
     have g3:w'.ownsRow w.heap.size 5 1 (.slice va (out.length+1) vc) (out++[c']).length (bc (out++[c'])):=by rw [zbU,List.length_append];exact g1
     have H2:=Hy (An g3 (bw.o.2.trans g2))
     clear g1 g2 g3
     go_wp2
     refine ⟨⟨k+1+n',out.length+1,out++[c'],by omega,by go_num,by go_num,by simp,by simp;omega,H2.o.1,H2.o.2,by rw [show decide (k+1+n'=0)=false by simp];exact HI.o⟩,by simp [intOf];omega⟩
   have q2:((c.toNat:Int)==92)=false:=by rw [beq_eq_false_iff_ne];intro hh;apply bE;apply UInt8.toNat_inj.1;show _=92;omega
   have wv:=Hy (znU c.toNat)
   have hk61:((⟨#[61]⟩:ByteArray)[0]'De).toNat=61:=rfl
   by_cases eh:zau c.toNat=true
   ·rw [eh] at wv
    have HI:=Hy (show rvT [] 0 true x.data.toList=none by rw [<- hinv];exact zfe _ _ _ _ (zii _ _ _ bA bE (.inl eh)))
    clear hinv bE bA eh
    go_wp2_with fail
    refine (wv.o _).mono ?_
    exact zlK
   have fO:zau c.toNat=false:=by simpa using eh
   rw [fO] at wv
   by_cases iA:c=61
   ·have q3:((c.toNat:Int) != 61)=false:=by rw [iA];rfl
    have HI:=Hy (show rvT (out++[c]) (out.length+1) false (x.data.toList.drop (k+1))=rvT [] 0 true x.data.toList by
     rw [<- hinv];exact (zfd _ _ _ c _ _ (zf6 _ _ _ bA bE (fun hh=>by rcases hh with hh | ⟨hh,_⟩;exact eh hh;exact hh iA))).symm)
    clear hinv bE bA eh fO iA
    go_wp2_with fail
    refine (wv.o _).mono ?_
    exact zlI
   have q3:((c.toNat:Int) != 61)=true:=by rw [bne_iff_ne];intro hh;apply iA;apply UInt8.toNat_inj.1;show _=61;omega
   have fb:=zlP (decide (k=0)) (decide (k+1=x.size)) false c.toNat (fun hh=>bA (UInt8.toNat_inj.1 hh))
   rw [fb] at HM
   cases cC:mkN (decide (k=0)) false c.toNat with
   | true =>
    rw [cC] at HM
    have HI:=Hy (show rvT [] 0 true x.data.toList=none by rw [<- hinv];exact zfe _ _ _ _ (zii _ _ _ bA bE (.inr ⟨iA,cC⟩)))
    clear hinv bE bA eh fO iA fb cC
    go_wp2_with fail
    refine (wv.o _).mono ?_
    rintro e w2 ⟨rfl,hw⟩
    obtain rfl:=hw.symm
    go_wp2_with fail
    refine (HM.o _).mono ?_
    exact zlK
   | false =>
    rw [cC] at HM
    have HI:=Hy (show rvT (out++[c]) (out.length+1) false (x.data.toList.drop (k+1))=rvT [] 0 true x.data.toList by
     rw [<- hinv];exact (zfd _ _ _ c _ _ (zf6 _ _ _ bA bE (fun hh=>by rcases hh with hh | ⟨_,hh⟩;exact eh hh;rw [cC] at hh;cases hh))).symm)
    clear hinv bE bA eh fO iA fb cC
    go_wp2_with fail
    refine (wv.o _).mono ?_
    rintro e w2 ⟨rfl,hw⟩
    obtain rfl:=hw.symm
    go_wp2_with fail
    refine (HM.o _).mono ?_
    exact zlI
  obtain rfl:k=x.size:=by omega
  rw [List.drop_of_length_le (by rw [zl];exact Nat.le_refl _),zlN] at hinv
  rcases ab.2 with ⟨hv,h0⟩ | ⟨g,cap,cur,hv,hB,hg,f9,hm,bQ,A6⟩
  ·have fQ:out=[]:=List.eq_nil_of_length_eq_zero h0
   have mI:n=0:=by omega
   subst fQ mI hv
   have gY:=zfy (P:=prog) (src:=176) (dst:=9) underlying176 underlying5 underlying9 (zjc wr w.heap.size 5)
   have H:=Hy (An hb hinv.symm)
   clear hb ab hinv
   go_wp2
   go_ret2
   exact ⟨by rw [H.o.2];rfl,H.o.1⟩
  have kF:=znG ab
  subst hv
  have A7:=znH kF n hn
  have gY:=zfy (P:=prog) (src:=176) (dst:=9) underlying176 underlying5 underlying9 A7
  have A8:(n:Int)<=(cap:Int):=by omega
  have H:=Hy (An hb hinv.symm)
  clear hb ab hinv kF A7 hg A6 bQ
  go_wp2
  go_ret2
  exact ⟨by rw [H.o.2];rfl,H.o.1⟩
theorem zst (c:UInt8) (l:Bs):(zbo c l).length<=l.length:=(List.takeWhile_sublist _).length_le
theorem zsu (c:UInt8) (l:Bs):(zba c l).length<=l.length:=by
 unfold zba
 rw [List.length_drop]
 have:=(List.dropWhile_sublist (· != c) (l:=l)).length_le
 omega
def RpV:Option Av->Value
 | none=>.tuple #[.agg #[.string ⟨#[]⟩,.string ⟨#[]⟩],.bool false]
 | some p=>.tuple #[.agg #[.string ⟨p.1.toArray⟩,.string ⟨p.2.toArray⟩],.bool true]
def zlQ (o:Option Av) (w:World) (en:Ending) (w':World):Prop:=en=.returned (RpV o)/\Below w.heap.size w w'
theorem zci (h:w.heap[g]?=some (.cells #[a,b] t (0,0))) (a' b':Value):((w.setCell ⟨g,0,none⟩ a').setCell ⟨g,1,none⟩ b').heap[g]?=some (.cells #[a',b'] t (0,0)) :=
 zH (zH h 0 a') 1 b'
theorem zao (h:w.heap[g]?=some (.cells #[a,b] t (0,0))):w.cell? ⟨g,0,none⟩=some a/\w.cell? ⟨g,1,none⟩=some b:=⟨zq h 0 a rfl,zq h 1 b rfl⟩
theorem zcQ {a:World} (h:Below B a w) {g:Nat} (hg:B<=g) (x y:Value):Below B a ((w.setCell ⟨g,0,none⟩ x).setCell ⟨g,1,none⟩ y) :=
 (h.setCell (p:=⟨g,0,none⟩) hg x).setCell (p:=⟨g,1,none⟩) hg y
theorem zsv (s:ByteArray) (hs:s.size<=140737488355328) (w:World) (he:zD w) :
  Calls prog 167 #[.string s] w (zlQ (rpL s.data.toList) w):=by
 have HC:=Hy (zsb s hs)
 obtain ⟨A,hA⟩:=Ex (zbo 61 s.data.toList)
 obtain ⟨B,hB⟩:=Ex (zba 61 s.data.toList)
 have qO:A.length<=140737488355328:=by rw [<- hA];have:=zst 61 s.data.toList;rw [zl] at this;omega
 have ww:B.length<=140737488355328:=by rw [<- hB];have:=zsu 61 s.data.toList;rw [zl] at this;omega
 change Hd (∀ w,Calls prog _ _ w fun en w'=>(∃ b,en=.returned (.tuple #[.string ⟨(zbo 61 s.data.toList).toArray⟩,.string ⟨(zba 61 s.data.toList).toArray⟩,.bool b]))/\Below w.heap.size w w') at HC
 rw [hA,hB] at HC
 have HT:=Hy (zsf ⟨A.toArray⟩ (show A.length<=_ from qO))
 obtain ⟨T,hT⟩:=Ex (tlB (trB A))
 change Hd (∀ w,Calls prog _ _ w (zG (tlB (trB A)) w)) at HT
 rw [hT] at HT
 have HY:=Hy (zn1 ⟨T.toArray⟩)
 change Hd (∀ w,Calls prog _ _ w (za1 (tyL T) w)) at HY
 have HV:=Hy (fun w he=>zss ⟨B.toArray⟩ (show B.length<=_ from ww) w he)
 change Hd (∀ w,zD w->Calls prog _ _ w (zf7 (rvL B) w)) at HV
 have ol:rpL s.data.toList=rpJ (tyL T) T (rvL B):=by unfold rpL;rw [hA,hB,hT]
 have HE:=Hy he
 rw [ol]
 obtain ⟨W1,aB⟩:=Ex (w.alloc (.cells #[.string ⟨#[]⟩,.string ⟨#[]⟩] 144))
 have aw:=Nw aB
 have ax:=Nb aB
 have HW:=Hy (An aw ax)
 clear hA hB hT ol qO ww hs he aw ax
 obtain ⟨ty,dA⟩:=Ex (tyL T)
 rw [dA] at HY ⊢
 clear dA
 cases ty with
 | false =>
  go_enter func167,ntmps167
  go_wp2_with fail
  refine (HC.o _).mono ?_
  rintro e w2 ⟨⟨b,rfl⟩,ak⟩
  go_wp2_with fail
  refine (HT.o _).mono ?_
  rintro e w3 ⟨rfl,aK⟩
  go_wp2_with fail
  refine (HY.o _).mono ?_
  rintro e w4 ⟨rfl,hw⟩
  obtain rfl:=hw.symm
  have ai:Below W1.heap.size W1 w3:=ak.trans (aK.mono ak.size)
  have aD:=Ob HW.o.1 ai
  exact zlJ
 | true =>
  obtain ⟨o,ho⟩:=Ex (rvL B)
  rw [ho] at HV ⊢
  clear ho
  go_enter func167,ntmps167
  go_wp2_with fail
  refine (HC.o _).mono ?_
  rintro e w2 ⟨⟨b,rfl⟩,ak⟩
  go_wp2_with fail
  refine (HT.o _).mono ?_
  rintro e w3 ⟨rfl,aK⟩
  go_wp2_with fail
  refine (HY.o _).mono ?_
  rintro e w4 ⟨rfl,hw⟩
  obtain rfl:=hw.symm
  have ai:Below W1.heap.size W1 w3:=ak.trans (aK.mono ak.size)
  have mJ:=Hy (HV.o w3 (zax HE.o (show Below w.heap.size w w3 from HW.o.2.trans (ai.mono HW.o.2.size))))
  have H5:=Hy ai
  clear ak aK ai
  cases o with
  | none =>
   change Hd (Calls prog _ _ w3 fun en w'=>en=.returned (.tuple #[.string ⟨#[]⟩,.bool false])/\Below w3.heap.size w3 w') at mJ
   go_wp2_with fail
   refine mJ.o.mono ?_
   rintro e w6 ⟨rfl,az⟩
   have ai:Below W1.heap.size W1 w6:=H5.o.trans (az.mono H5.o.size)
   have aD:=Ob HW.o.1 ai
   clear az
   exact zlJ
  | some v =>
   change Hd (Calls prog _ _ w3 fun en w'=>en=.returned (.tuple #[.string ⟨v.toArray⟩,.bool true])/\Below w3.heap.size w3 w') at mJ
   by_cases hv:v=[]
   ·have dS:v.isEmpty=true:=by rw [hv];rfl
    have HR:=Hy (show rpJ true T (some v)=none by rw [rpJ,if_pos rfl];show (if v=[] then none else some (T,v))=none;rw [if_pos hv])
    clear hv
    go_wp2_with fail
    refine mJ.o.mono ?_
    rintro e w6 ⟨rfl,az⟩
    have ai:Below W1.heap.size W1 w6:=H5.o.trans (az.mono H5.o.size)
    have aD:=Ob HW.o.1 ai
    clear az
    obtain ⟨b0,b1⟩:=zao aD
    have f0:=zc aD 0
    have f1:=zc aD 1
    have HF:=Hy (An (HW.o.2.trans (ai.mono HW.o.2.size)) (zci aD (.string ⟨#[]⟩) (.string ⟨#[]⟩)))
    clear ai aD
    go_wp2
    obtain ⟨g0,g1⟩:=zao HF.o.2
    refine bodyPost_ret (v:=RpV (none)) (by simp [results,results167,go_sem,RpV, *]) rfl ⟨?_,zcQ HF.o.1 Lr _ _⟩
    rw [HR.o]
   have dS:v.isEmpty=false:=by cases v <;> simp_all
   have HR:=Hy (show rpJ true T (some v)=some (T,v) by rw [rpJ,if_pos rfl];show (if v=[] then none else some (T,v))=some (T,v);rw [if_neg hv])
   clear hv
   go_wp2_with fail
   refine mJ.o.mono ?_
   rintro e w6 ⟨rfl,az⟩
   have ai:Below W1.heap.size W1 w6:=H5.o.trans (az.mono H5.o.size)
   have aD:=Ob HW.o.1 ai
   clear az
   obtain ⟨b0,b1⟩:=zao aD
   have f0:=zc aD 0
   have f1:=zc aD 1
   have HF:=Hy (An (HW.o.2.trans (ai.mono HW.o.2.size)) (zci aD (.string ⟨T.toArray⟩) (.string ⟨v.toArray⟩)))
   clear ai aD
   go_wp2
   obtain ⟨g0,g1⟩:=zao HF.o.2
   refine bodyPost_ret (v:=RpV (some (T,v))) (by simp [results,results167,go_sem,RpV, *]) rfl ⟨?_,zcQ HF.o.1 Lr _ _⟩
   rw [HR.o]
def avc (r:List Av):List Value:=r.flatMap fun p=>[.string ⟨p.1.toArray⟩,.string ⟨p.2.toArray⟩]
theorem zbN (p:Av) (r:List Av):avc (p :: r)=.string ⟨p.1.toArray⟩ :: .string ⟨p.2.toArray⟩ :: avc r:=rfl
theorem zcj (r:List Av):(avc r).length=2*r.length:=by
 induction r with
 | nil=>rfl
 | cons p r ih=>rw [zbN,List.length_cons,List.length_cons,List.length_cons,ih];omega
theorem zbO (r:List Av) (j:Nat) (h:j<r.length):(avc r)[j*2]?=some (.string ⟨r[j].1.toArray⟩)/\(avc r)[j*2+1]?=some (.string ⟨r[j].2.toArray⟩):=by
 induction r generalizing j with
 | nil=>simp at h
 | cons p r ih =>
  cases j with
  | zero=>simp [zbN]
  | succ j =>
   have:=ih j (by simpa using h)
   rw [zbN,show (j+1)*2=j*2+2 by omega,show j*2+2+1=j*2+1+2 by omega]
   simpa using this
theorem zlR (r:List Av) (j:Nat) (h:j<r.length) (p:Av):((avc r).set (j*2) (.string ⟨p.1.toArray⟩)).set (j*2+1) (.string ⟨p.2.toArray⟩)=avc (r.set j p):=by
 induction r generalizing j with
 | nil=>simp at h
 | cons q r ih =>
  cases j with
  | zero=>simp [zbN]
  | succ j =>
   have:=ih j (by simpa using h)
   rw [zbN,show (j+1)*2=j*2+2 by omega,show j*2+2+1=j*2+1+2 by omega,List.set_cons_succ,List.set_cons_succ,List.set_cons_succ,List.set_cons_succ,List.set_cons_succ,zbN,this]
theorem zsw (r:List Av) (j:Nat) (h:j<r.length) (p:Av):((avc r).toArray.setIfInBounds (j*2) (.string ⟨p.1.toArray⟩)).setIfInBounds (j*2+1) (.string ⟨p.2.toArray⟩)=(avc (r.set j p)).toArray:=by
 rw [<- zlR r j h p];simp
def zaH (g n:Nat):Value:=.slice (some ⟨g,0,none⟩) n n
def ovc (gs:List Nat) (D:List (List Av)):List Value:=List.zipWith (fun g r=>zaH g r.length) gs D
theorem zf8 (gs:List Nat) (D:List (List Av)) (h:gs.length=D.length):(ovc gs D).length=D.length:=by simp [ovc,h]
theorem zij (gs:List Nat) (D:List (List Av)) (i:Nat) (h:i<gs.length) (h':i<D.length):(ovc gs D)[i]?=some (zaH gs[i] D[i].length):=by
 rw [ovc,List.getElem?_zipWith,List.getElem?_eq_getElem h,List.getElem?_eq_getElem h']
theorem zsx (gs:List Nat) (D:List (List Av)) (g:Nat) (r:List Av) (h:gs.length=D.length):ovc (gs++[g]) (D++[r])=ovc gs D++[zaH g r.length]:=by
 unfold ovc
 rw [List.zipWith_append h];rfl
theorem zlS (gs:List Nat) (D:List (List Av)) (k:Nat) (r:List Av) (hk:k<D.length) (hr:r.length=D[k].length):ovc gs (D.set k r)=ovc gs D:=by
 unfold ovc
 apply List.ext_getElem?
 intro i
 simp only [List.getElem?_zipWith]
 by_cases hi:i=k
 ·subst hi
  cases gs[i]? with
  | none=>rfl
  | some g=>simp [hk,hr]
 rw [List.getElem?_set_ne (fun e=>hi e.symm)]
structure zas (w:World) (B:Nat) (g:Nat) (gs:List Nat) (D:List (List Av)) (m:Nat) (e1 e2:TypeId):Prop where
 base:B<=g
 len:gs.length=D.length
 outer:w.heap[g]?=some (.cells (ovc gs D++List.replicate m (Value.slice none 0 0)).toArray e2 (0,0))
 rows:∀ i (h:i<gs.length) (h':i<D.length),B<=gs[i]/\gs[i]≠g/\w.heap[gs[i]]?=some (.cells (avc D[i]).toArray e1 (0,0))
 nodup:gs.Nodup
theorem zik (h:zas w B g gs D m e1 e2) (hb:Below w.heap.size w w'):zas w' B g gs D m e1 e2 :=
 ⟨h.base,h.len,Ob h.outer hb,fun i hi cG=>⟨(h.rows i hi cG).1,(h.rows i hi cG).2.1,zj (h.rows i hi cG).2.2 hb (zi (h.rows i hi cG).2.2)⟩,h.nodup⟩
theorem zsy (h:zas w B g gs D m e1 e2) (hh:w'.heap=w.heap):zas w' B g gs D m e1 e2 :=
 ⟨h.base,h.len,by rw [hh];exact h.outer,fun i hi cG=>by rw [hh];exact h.rows i hi cG,h.nodup⟩
theorem zsz (h:zas w B g gs D (m+1) e1 e2) (hB:B<=w.heap.size) (r:List Av) (M:Array Value) (hM:M=(avc r).toArray) :
  zas ((w.alloc (.cells M e1)).setCell ⟨g,D.length,none⟩ (zaH w.heap.size r.length)) B g (gs++[w.heap.size]) (D++[r]) m e1 e2:=by
 subst hM
 have hg:=zi h.outer
 refine ⟨h.base,by simp [h.len],?_,?_,?_⟩
 ·have h1:=zH (za0 h.outer (.cells (avc r).toArray e1)) D.length (zaH w.heap.size r.length)
  rw [h1]
  congr 2
  rw [zsx gs D _ _ h.len]
  apply Array.ext'
  simp only [Array.toList_setIfInBounds,List.toList_toArray]
  have hl:=zf8 gs D h.len
  rw [List.set_append_right _ _ Om,hl,Nat.sub_self,List.replicate_succ,List.set_cons_zero,List.append_assoc]
  rfl
 ·intro i hi cG
  by_cases aj:i<D.length
  ·have dr:i<gs.length:=by rw [h.len];exact aj
   obtain ⟨a,b,c⟩:=h.rows i dr aj
   rw [List.getElem_append_left dr,List.getElem_append_left aj]
   exact ⟨a,b,zdc (za0 c _) (p:=⟨g,D.length,none⟩) b _⟩
  have jd:i=D.length:=by simp at cG;omega
  subst jd
  have e1':(gs++[w.heap.size])[D.length]'hi=w.heap.size:=by simp [<- h.len]
  have e2':(D++[r])[D.length]'cG=r:=by simp
  rw [e1',e2']
  exact ⟨hB,by omega,zdc (heap_alloc_new w _) (p:=⟨g,D.length,none⟩) (by show w.heap.size≠g;omega) _⟩
 rw [List.nodup_append]
 refine ⟨h.nodup,by simp,?_⟩
 intro a ha b hb
 obtain rfl:=List.mem_singleton.1 hb
 obtain ⟨i,hi,rfl⟩:=List.mem_iff_getElem.1 ha
 have:=zi (h.rows i hi (by rw [<- h.len];exact hi)).2.2
 omega
theorem zlT (h:zas w B g gs D m e1 e2) (k:Nat) (hk:k<gs.length) (eV:k<D.length) (j:Nat) (hj:j<D[k].length) (p:Av) :
  zas ((w.setCell ⟨gs[k],j*2,none⟩ (.string ⟨p.1.toArray⟩)).setCell ⟨gs[k],j*2+1,none⟩ (.string ⟨p.2.toArray⟩)) B g gs (D.set k (D[k].set j p)) m e1 e2:=by
 obtain ⟨a,b,c⟩:=h.rows k hk eV
 refine ⟨h.base,by simp [h.len],?_,?_,h.nodup⟩
 ·rw [zlS gs D k _ eV Sm]
  exact zdc (zdc h.outer (p:=⟨gs[k],j*2,none⟩) (fun e=>b e.symm) _) (p:=⟨gs[k],j*2+1,none⟩) (fun e=>b e.symm) _
 intro i hi cG
 have jd:i<D.length:=by simpa using cG
 obtain ⟨a',b',c'⟩:=h.rows i hi jd
 refine ⟨a',b',?_⟩
 by_cases kG:i=k
 ·subst kG
  have e:(D.set i (D[i].set j p))[i]'cG=D[i].set j p:=by simp
  rw [e,<- zsw D[i] j hj p]
  exact zH (zH c' (j*2) _) (j*2+1) _
 have e:(D.set k (D[k].set j p))[i]'cG=D[i]:=List.getElem_set_ne (fun e=>kG e.symm) _
 have aH:gs[i]≠gs[k]:=fun e=>kG ((List.getElem_inj h.nodup).1 e)
 rw [e]
 exact zdc (zdc c' (p:=⟨gs[k],j*2,none⟩) aH _) (p:=⟨gs[k],j*2+1,none⟩) aH _
theorem zsA {r:List Av} (h:w.heap[g]?=some (.cells (avc r).toArray e (0,0))):zb8 w (zaH g r.length) r:=by
 refine ⟨_,_,rfl,Nat.le_refl _,fun i hi=>⟨g,0,rfl,zi h,?_,?_⟩⟩
 ·rw [Nat.zero_add];exact zq h (i*2) _ (by simpa using (zbO r i hi).1)
 rw [Nat.zero_add];exact zq h (i*2+1) _ (by simpa using (zbO r i hi).2)
theorem zf9 (h:zas w B g gs D 0 e1 e2):zb9 w (zaH g D.length) D:=by
 refine ⟨_,_,rfl,Nat.le_refl _,fun i hi=>?_⟩
 have cG:i<gs.length:=by rw [h.len];exact hi
 refine ⟨g,0,zaH gs[i] D[i].length,rfl,zi h.outer,?_,zsA (h.rows i cG hi).2.2⟩
 rw [Nat.zero_add]
 exact zq h.outer i _ (by simpa using zij gs D i cG hi)
def zil (w:World) (v:Value) (ps:List (List (Bs))):Prop :=
 ∃ a c,v=.slice a ps.length c/\∀ i (h:i<ps.length),∃ g u,a=some ⟨g,0,none⟩/\g<w.heap.size/\w.cell? ⟨g,i,none⟩=some u/\zi9 w u ps[i]
theorem zsB {v:Value} {vs:List Value} (h:zcp w B e2 e v vs ps):zil w v ps:=by
 rcases h.2.1.2 with ⟨rfl,h0⟩ | ⟨g,cap,cur,hv,_,hg,_⟩
 ·exact ⟨none,0,by rw [h0],fun i hi=>by omega⟩
 subst hv
 refine ⟨_,cap,rfl,fun i hi=>?_⟩
 have cG:i<vs.length:=by rw [h.1];exact hi
 refine ⟨g,vs[i],rfl,zi hg,?_,zeC (h.2.2 i hi cG).1⟩
 rw [h.2.1.cellAt i Om]
 exact List.getElem?_eq_getElem cG
theorem Tryz.dninfo144 : (prog.info? 144).map (fun i=>(i.zero,i.size,i.bytes))=some (some (.agg #[.string ByteArray.empty,.string ByteArray.empty]),2,32):=by kernel_rfl
theorem Tryz.dninfo140 : (prog.info? 140).map (fun i=>(i.zero,i.size,i.bytes))=some (some (.slice none 0 0),1,24):=by kernel_rfl
def zdQ:Av:=([],[])
theorem zsC (n:Nat):madeCells #[Value.string ByteArray.empty,Value.string ByteArray.empty] (n*2)=(avc (List.replicate n zdQ)).toArray:=by
 have hz:∀ l:List Nat,l.map (fun k=>(#[Value.string ByteArray.empty,Value.string ByteArray.empty] : Array Value)[k%2]!)=List.replicate l.length (Value.string ByteArray.empty):=by
  intro l
  induction l with
  | nil=>rfl
  | cons k r ih =>
   rw [List.map_cons,ih,List.length_cons,List.replicate_succ]
   congr 1
   have:k%2=0\/k%2=1:=by omega
   rcases this with h | h <;> rw [h] <;> rfl
 have h2:avc (List.replicate n zdQ)=List.replicate (n*2) (Value.string ByteArray.empty):=by
  induction n with
  | zero=>rfl
  | succ n ih=>rw [List.replicate_succ,zbN,ih,show (n+1)*2=n*2+1+1 by omega,List.replicate_succ,List.replicate_succ];rfl
 apply Array.ext'
 rw [List.toList_toArray,h2]
 unfold madeCells
 rw [Array.toList_map,Array.toList_range]
 have:=hz (List.range (n*2))
 rw [List.length_range] at this
 exact this
theorem zsD (n:Nat) (W:World) (hn:n<=1000000):(Instr.makeSlice 136 (.int .i64 (n:Int)) (.int .i64 (n:Int))).run prog W=.ok (.slice (some ⟨W.heap.size,0,none⟩) n n) (W.alloc (.cells (List.replicate n (Value.slice none 0 0)).toArray 140)):=by
 obtain ⟨i0,hi,bO,bi,ce⟩:=info_parts Tryz.dninfo140
 have h:=run_make (P:=prog) W 136 140 i0 (.slice none 0 0) underlying136 hi bO .i64 .i64 (n:Int) (n:Int) Om Om (by rw [ce];omega) Om
 have e:madeCells (Value.slice none 0 0).cells ((n:Int).toNat*i0.size)=(List.replicate n (Value.slice none 0 0)).toArray:=by
  apply Array.ext'
  rw [bi,show (n:Int).toNat*1=n by omega]
  exact (toList_madeCells_one _ n).trans Sm
 rw [e] at h
 simpa using h
theorem zsE (n:Nat) (W:World) (hn:n<=1000000):(Instr.makeSlice 140 (.int .i64 (n:Int)) (.int .i64 (n:Int))).run prog W=.ok (.slice (some ⟨W.heap.size,0,none⟩) n n) (W.alloc (.cells (avc (List.replicate n zdQ)).toArray 144)):=by
 obtain ⟨i0,hi,bO,bi,ce⟩:=info_parts Tryz.dninfo144
 have h:=run_make (P:=prog) W 140 144 i0 (.agg #[.string ByteArray.empty,.string ByteArray.empty]) underlying140 hi bO .i64 .i64 (n:Int) (n:Int) Om Om (by rw [ce];omega) Om
 have e:madeCells (Value.agg #[.string ByteArray.empty,.string ByteArray.empty]).cells ((n:Int).toNat*i0.size)=(avc (List.replicate n zdQ)).toArray:=by
  rw [bi,show (n:Int).toNat*2=n*2 by omega];exact zsC n
 rw [e] at h
 simpa using h
theorem zlU (l:List (Bs)) (j:Nat) (h:j<l.length) (hp:rpL l[j]=none):zaz (l.drop j)=none:=by rw [zO l j h,zaz,hp]
theorem zlV (l:List (Bs)) (j:Nat) (h:j<l.length) {p:Av} (hp:rpL l[j]=some p):zaz (l.drop j)=(zaz (l.drop (j+1))).map (p :: ·):=by rw [zO l j h,zaz,hp]
theorem zsF (l:List (List (Bs))) (j:Nat) (h:j<l.length) (hp:zaz l[j]=none):rpp (l.drop j)=none:=by rw [zO l j h,rpp,hp]
theorem zsG (l:List (List (Bs))) (j:Nat) (h:j<l.length) {p:List Av} (hp:zaz l[j]=some p):rpp (l.drop j)=(rpp (l.drop (j+1))).map (p :: ·):=by rw [zO l j h,rpp,hp]
theorem take_set {α:Type} (R:List α) (j:Nat) (h:j<R.length) (q:α):(R.set j q).take (j+1)=R.take j++[q]:=by
 rw [List.take_succ_eq_append_getElem (by simpa using h),List.take_set,List.set_eq_of_length_le (by rw [List.length_take];omega)]
 simp
def zim (o:Option (List (List Av))) (e1 e2:TypeId) (w:World) (en:Ending) (w':World):Prop :=
 match o with
 | none=>en=.returned (.tuple #[.slice none 0 0,.bool false])/\Below w.heap.size w w'
 | some D=>∃ g gs,en=.returned (.tuple #[zaH g D.length,.bool true])/\zas w' w.heap.size g gs D 0 e1 e2/\Below w.heap.size w w'
theorem zsH (h:o=none) (hb:Below w.heap.size w w'):zim o e1 e2 w (.returned (.tuple #[.slice none 0 0,.bool false])) w':=by subst h;exact ⟨rfl,hb⟩
theorem zsI (h:o=some D) (hd:zas w' w.heap.size g gs D 0 e1 e2) (hb:Below w.heap.size w w'):zim o e1 e2 w (.returned (.tuple #[zaH g D.length,.bool true])) w':=by
 subst h;exact ⟨g,gs,rfl,hd,hb⟩
theorem zsJ (v:Value) (ps:List (List (Bs))) (w:World) (h:zil w v ps) (he:zD w) (hn:ps.length<=100000) (hk:∀ p∈ps,p.length<=100000) (hx:∀ p∈ps,∀ x∈p,x.length<=100000) :
  Calls prog 140 #[v] w (zim (rpp ps) 144 140 w):=by
 obtain ⟨a,c,hv,ae⟩:=id h
 subst hv
 have HH:=Hy (An ae (An he (An hk hx)))
 have cC:=fun W=>zsD ps.length W Om
 obtain ⟨n,fs⟩:=Ex ps.length
 rw [fs] at cC hn ⊢
 obtain ⟨M,hM⟩:=Ex ((List.replicate n (Value.slice none 0 0)).toArray)
 rw [hM] at cC
 obtain ⟨W1,aB⟩:=Ex (w.alloc (.cells M 140))
 have rZ:zas W1 w.heap.size w.heap.size [] [] n 144 140 := ⟨Nat.le_refl _,rfl,by rw [<- aB,<- hM];exact heap_alloc_new w _,fun i h=>by simp at h,List.nodup_nil⟩
 have aE:=Nb aB
 have gm:=Hy (An rZ aE)
 clear ae he hk hx rZ aE h hM
 go_enter func140,ntmps140
 go_wp2
 go_loopw [16] (fun v wr=>∃ (i:Nat) (gs:List Nat) (D:List (List Av)) (m:Nat),i+m=n/\v=.int .i64 (i:Nat)/\D.length=i/\zas wr w.heap.size w.heap.size gs D m 144 140/\Below w.heap.size w wr/\rpp ps=(rpp (ps.drop i)).map (D ++ ·)) (fun v _=>n - (intOf v).toNat)
 case atStart=>exact ⟨0,[],[],n,by omega,rfl,rfl,gm.o.1,gm.o.2,by simp⟩
 case round =>
  obtain ⟨i,gs,D,m,cJ,rfl,hD,aG,hb,hinv⟩:=hrel
  by_cases aj:i<n
  ·obtain ⟨m',rfl⟩:∃ m',m=m'+1:=⟨m - 1,by omega⟩
   obtain ⟨g,u,rfl,hg,c1w,hu⟩:=HH.o.1 i Om
   have c1:=(hb.cell (p:=⟨g,i,none⟩) hg).trans c1w
   have cW:(i:Int)<(n:Int):=by omega
   have dF:ps[i]'Om∈ps:=List.getElem_mem Om
   have LG:=HH.o.2.2.1 _ dF
   have ud:=HH.o.2.2.2 _ dF
   obtain ⟨p,hp⟩:=Ex (ps[i]'Om)
   rw [hp] at hu LG ud
   obtain ⟨ua,uc,LH,i9⟩:=id hu
   subst LH
   have qP:=fun W=>zsE p.length W Om
   obtain ⟨k,eq⟩:=Ex p.length
   rw [eq] at qP LG
   obtain ⟨M2,GN⟩:=Ex ((avc (List.replicate k zdQ)).toArray)
   rw [GN] at qP
   obtain ⟨Wa,GO⟩:=Ex (wr.alloc (.cells M2 144))
   have om:=zsz aG hb.size (List.replicate k zdQ) M2 GN.symm
   rw [List.length_replicate,GO,hD] at om
   have Er:=za0 aG.outer (.cells M2 144)
   rw [GO] at Er
   have k1:Wa.cell? ⟨w.heap.size,i,none⟩=some (.slice none 0 0):=zq Er i _ (by
    have hl:=zf8 gs D aG.len
    simp only [List.getElem?_toArray]
    rw [List.getElem?_append_right Om,hl,hD,Nat.sub_self,List.replicate_succ];rfl)
   have k2:Wa.frozen? ⟨w.heap.size,i,none⟩=false:=zc Er i
   have HA:=Hy (An om (An hb (An hinv (An hu (An ud (An eq (An hp c1w)))))))
   clear aG hb hinv hu ud i9 om Er dF c1w hp GN
   obtain ⟨gi,Es⟩:=Ex wr.heap.size
   rw [Es] at HA
   obtain ⟨Wb,LI⟩:=Ex (Wa.setCell ⟨w.heap.size,i,none⟩ (.slice (some ⟨gi,0,none⟩) k k))
   change Hd (zas (Wa.setCell ⟨w.heap.size,i,none⟩ (.slice (some ⟨gi,0,none⟩) k k)) _ _ _ _ _ _ _/\_) at HA
   rw [LI] at HA
   have eO:Below w.heap.size w Wb:=by rw [<- LI,<- GO];exact (HA.o.2.1.alloc HA.o.2.1.size _).setCell (p:=⟨w.heap.size,i,none⟩) Lr _
   have Ec:=Hy eO
   clear eO
   go_wp2
   go_loopw [29] (fun v wr=>∃ (j:Nat) (R:List Av),j<=k/\v=.int .i64 (j:Nat)/\R.length=k/\zas wr w.heap.size w.heap.size (gs++[gi]) (D++[R]) m' 144 140/\Below w.heap.size w wr/\zaz p=(zaz (p.drop j)).map (R.take j ++ ·)) (fun v _=>k - (intOf v).toNat)
   case atStart=>exact ⟨0,List.replicate k zdQ,by omega,rfl,by simp,HA.o.1,Ec.o,by simp⟩
   case round =>
    obtain ⟨j,R,hj,rfl,hR,aG,hb,hinv⟩:=hrel
    by_cases n9:j<k
    ·have fB:(j:Int)<(k:Int):=by omega
     obtain ⟨ua',uc',hv,A9⟩:=HA.o.2.2.2.1
     injection hv with dl f7 ep
     subst dl ep
     obtain ⟨g2,rfl,cf,aP⟩:=A9 j Om
     have e1:=(hb.cell (p:=⟨g2,j,none⟩) cf).trans aP
     have gZ:=HA.o.2.2.2.2.1 _ (List.getElem_mem (show j<p.length by omega))
     have HN:=Hy (zlU p j Om)
     have HS:=Hy (fun q=>zlV p j Om (p:=q))
     obtain ⟨x,hx⟩:=Ex (p[j]'Om)
     rw [hx] at e1 gZ HN HS
     have HC:=Hy (zsv ⟨x.toArray⟩ (by show x.length<=_;omega) wr (zlA HH.o.2.1 hb (Lib.lt_of_cell HH.o.2.1.choose_spec.1)))
     change Hd (Calls prog _ _ wr (zlQ (rpL x) wr)) at HC
     have H:=Hy (An aG (An hb (An hinv hR)))
     clear aG hb hinv A9 gZ hx aP
     obtain ⟨o,ho⟩:=Ex (rpL x)
     rw [ho] at HC HN HS
     clear ho
     cases o with
     | none =>
      have HI:=Hy (show rpp ps=none by
       rw [HA.o.2.2.1,zsF ps i Om (by rw [HA.o.2.2.2.2.2.2.1,H.o.2.2.1,HN.o rfl];rfl)];rfl)
      change Hd (Calls prog _ _ wr fun en w'=>en=.returned (.tuple #[.agg #[.string ⟨#[]⟩,.string ⟨#[]⟩],.bool false])/\Below wr.heap.size wr w') at HC
      go_wp2_with fail
      refine HC.o.mono ?_
      rintro e w2 ⟨rfl,ak⟩
      have bw:=Hy (H.o.2.1.trans (ak.mono H.o.2.1.size))
      clear ak
      go_wp2
      go_ret2
      exact zsH HI.o (bw.o.alloc bw.o.size _)
     | some q =>
      obtain ⟨T,V⟩:=q
      change Hd (Calls prog _ _ wr fun en w'=>en=.returned (.tuple #[.agg #[.string ⟨T.toArray⟩,.string ⟨V.toArray⟩],.bool true])/\Below wr.heap.size wr w') at HC
      go_wp2_with fail
      refine HC.o.mono ?_
      rintro e w2 ⟨rfl,ak⟩
      obtain ⟨W3,cU⟩:=Ex (w2.alloc (.cells #[.string ⟨T.toArray⟩,.string ⟨V.toArray⟩] 144))
      have aK:Below wr.heap.size wr W3:=by rw [<- cU];exact ak.alloc ak.size _
      have aw:=Nw cU
      have dM:=zik H.o.1 aK
      obtain ⟨d1,d2⟩:=zao aw
      have ue:D.length<(D++[R]).length:=by simp
      have pX:D.length<(gs++[gi]).length:=by rw [dM.len];exact ue
      have fP:(gs++[gi])[D.length]'pX=gi:=by
       have:=HA.o.1.len
       simp at this
       simp [<- this]
      have rK:(D++[R])[D.length]'ue=R:=by simp
      have r6:=zij (gs++[gi]) (D++[R]) D.length pX ue
      rw [fP,rK,H.o.2.2.2] at r6
      have d3:W3.cell? ⟨w.heap.size,i,none⟩=some (.slice (some ⟨gi,0,none⟩) k k):=by
       refine zq dM.outer i _ ?_
       rw [<- hD]
       have aF:=zf8 (gs++[gi]) (D++[R]) dM.len
       simp only [List.getElem?_toArray]
       rw [List.getElem?_append_left (by rw [aF];exact ue)]
       exact r6
      have aA:=(dM.rows D.length pX ue).2.2
      rw [fP,rK] at aA
      have iB:j<R.length:=by rw [H.o.2.2.2];exact n9
      have a1:=zq aA (j*2) _ (by simpa using (zbO R j iB).1)
      have a2:=zq aA (j*2+1) _ (by simpa using (zbO R j iB).2)
      have a3:=zc aA (j*2)
      have a4:=zc aA (j*2+1)
      have er:=zlT (zsy dM (w':=W3.drew) rfl) D.length pX ue j (by rw [rK];exact iB) (T,V)
      have wD:w.heap.size<=gi:=by have:=(dM.rows D.length pX ue).1;rwa [fP] at this
      rw [fP,rK] at er
      have bm:(D++[R]).set D.length (R.set j (T,V))=D++[R.set j (T,V)]:=by rw [List.set_append_right _ _ Lr,Nat.sub_self];rfl
      rw [bm] at er
      have cG:(i:Int)<(n:Int):=cW
      have HF:=Hy (An er (An (H.o.2.1.trans (aK.mono H.o.2.1.size)) wD))
      have HP:=Hy aA
      clear ak aK aw dM ue fP rK r6 aA er bm
      go_wp2
      go_still_tail 7,Kr
      change wpList _ _ _ _ _ W3.drew
      have a1':W3.drew.cell? ⟨gi,j*2,none⟩=_:=a1
      have a2':W3.drew.cell? ⟨gi,j*2+1,none⟩=_:=a2
      have a3':W3.drew.frozen? ⟨gi,j*2,none⟩=false:=a3
      have a4':W3.drew.frozen? ⟨gi,j*2+1,none⟩=false:=a4
      have bv:Below w.heap.size w W3.drew:=HF.o.2.1.drew
      have eM:=Hy ((bv.setCell (p:=⟨gi,j*2,none⟩) HF.o.2.2 (.string ⟨T.toArray⟩)).setCell (p:=⟨gi,j*2+1,none⟩) HF.o.2.2 (.string ⟨V.toArray⟩))
      clear a1 a2 a3 a4 bv
      obtain ⟨Wd,LJ⟩:=Ex W3.drew
      rw [LJ] at a1' a2' a3' a4' HF eM ⊢
      clear LJ
      go_wp2
      refine ⟨⟨j+1,R.set j (T,V),by omega,by go_num,by simp [H.o.2.2.2],HF.o.1,eM.o,?_⟩,by simp [intOf];omega⟩
      rw [H.o.2.2.1,HS.o _ rfl,Option.map_map]
      congr 1
      funext q
      simp only [Function.comp]
      rw [take_set R j iB (T,V),List.append_assoc]
      rfl
    obtain rfl:j=k:=by omega
    have GP:=eq
    have ei:zaz p=some R:=by
     rw [hinv,List.drop_of_length_le Om,List.take_of_length_le Om];simp [zaz]
    have HS:=Hy (zsG ps i Om (p:=R))
    have h9:=HA.o.2.2.1
    rw [HS.o (by rw [HA.o.2.2.2.2.2.2.1];exact ei),Option.map_map] at h9
    have H:=Hy (An aG (An hb (show rpp ps=(rpp (ps.drop (i+1))).map ((D++[R]) ++ ·) by rw [h9];congr 1;funext q;simp)))
    clear aG hb hinv ei h9
    go_wp2
    refine ⟨⟨i+1,gs++[gi],D++[R],m',by omega,by go_num,by simp [hD],H.o.1,H.o.2.1,H.o.2.2⟩,by simp [intOf];omega⟩
  obtain rfl:m=0:=by omega
  obtain rfl:i=n:=by omega
  have ol:rpp ps=some D:=by rw [hinv,List.drop_of_length_le Om];simp [rpp]
  have H:=Hy (An ol (An aG hb))
  clear hinv aG hb ol
  go_wp2
  go_ret2
  have h9:=zsI H.o.1 H.o.2.1 H.o.2.2
  rw [hD] at h9
  exact h9
theorem zsK (a:Option Addr) (n c:Nat) (w:World):Calls prog 169 #[.slice a n c] w (za1 (decide (8<n)) w):=by
 go_enter func169,ntmps169
 go_wp2
 go_ret
 exact zag (by rw [Bool.eq_iff_iff];simp only [decide_eq_true_eq];omega)
theorem zsL (d:List (List Av)) (k:Nat) (h:k<d.length) (h1:(d.take k).any (fun r=>decide (8<r.length))=false):(d.take (k+1)).any (fun r=>decide (8<r.length))=decide (8<d[k].length):=by
 rw [zgM (fun r:List Av=>decide (8<r.length)) d k h,h1,Bool.false_or]
theorem zsM (v:Value) (d:List (List Av)) (w:World) (h:zb9 w v d) (hr:d.length<=9223372036854775807) :
  Calls prog 196 #[v,.func (.func 169) #[] #[]] w
   (fun e w'=>(∃ n:Int,e=.returned (.int .i64 n)/\decide (n ≥ 0)=d.any fun r=>decide (8<r.length))/\w'=w):=by
 obtain ⟨a,c,rfl,bM,h⟩:=h
 have HH:=Hy h
 clear h
 go_enter func196,ntmps196
 go_wp2
 go_loop [8] (fun v=>∃ k:Nat,k<=d.length/\v=.int .i64 (k:Nat)/\(d.take k).any (fun r=>decide (8<r.length))=false) (fun v=>d.length - (intOf v).toNat)
 case atStart=>exact ⟨0,by omega,rfl,rfl⟩
 case round =>
  obtain ⟨k,hk,rfl,cj⟩:=hrel
  by_cases aj:k<d.length
  ·obtain ⟨g,o,u,rfl,hg,c1,cH⟩:=HH.o k aj
   have bh:(k:Int)<(d.length:Int):=by omega
   have bn:=zsL d k aj cj
   obtain ⟨r,hr⟩:=Ex (d[k])
   rw [hr] at cH bn
   obtain ⟨ua,uc,hu,_,_⟩:=cH
   subst hu
   have HC:=Hy (zsK ua r.length uc)
   obtain ⟨q,hq⟩:=Ex (decide (8<r.length))
   rw [hq] at HC bn
   have H:=Hy bn
   clear cj bn hr hq
   cases q
   ·go_wp2_with fail
    refine (HC.o _).mono ?_
    rintro e w2 ⟨rfl,hw⟩
    obtain rfl:=hw.symm
    go_wp2
    refine ⟨⟨k+1,by omega,by go_num,H.o⟩,by simp [intOf];omega⟩
   go_wp2_with fail
   refine (HC.o _).mono ?_
   rintro e w2 ⟨rfl,hw⟩
   obtain rfl:=hw.symm
   go_wp2
   go_ret
   refine ⟨⟨k,rfl,?_⟩,rfl⟩
   have h9:=H.o
   have lk:(d.any fun r=>decide (8<r.length))=true:=by
    rw [List.any_eq_true] at h9 ⊢
    obtain ⟨x,hx,hp⟩:=h9
    exact ⟨x,List.mem_of_mem_take hx,hp⟩
   rw [lk];simp
  obtain rfl:k=d.length:=by omega
  rw [List.take_length] at cj
  have H:=Hy cj
  clear cj
  go_wp2
  go_ret
  exact ⟨⟨-1,rfl,by rw [H.o];rfl⟩,rfl⟩
theorem zsN (v:Value) (d:List (List Av)) (w:World) (h:zb9 w v d) (hr:d.length<=9223372036854775807) :
  Calls prog 142 #[v] w (za1 (lgD d) w):=by
 have HC:=Hy (zsM v d w h hr)
 obtain ⟨a,c,rfl,bM,_⟩:=h
 by_cases h0:32<d.length
 ·have H:=Hy (show lgD d=true by simp only [lgD,Bool.or_eq_true,decide_eq_true_eq];exact .inl h0)
  have h1:(32:Int)<(d.length:Int):=by omega
  clear h0
  go_enter func142,ntmps142
  go_wp2
  go_ret
  exact zag H.o
 have h1:(d.length:Int)<=32:=by omega
 have H:=Hy (show lgD d=d.any fun r=>decide (8<r.length) by simp only [lgD];rw [show decide (32<d.length)=false by simp;omega];rfl)
 clear h0
 go_enter func142,ntmps142
 go_wp2_with fail
 go_in
 go_wp2_with fail
 refine HC.o.mono ?_
 rintro e w2 ⟨⟨n,rfl,hn⟩,hw⟩
 obtain rfl:=hw.symm
 have HN:=Hy hn
 clear hn
 go_wp2
 go_ret
 refine zag ?_
 rw [H.o,<- HN.o,show decide ((32:Int)<(d.length:Int))=false by simp;omega]
 rfl
def zga (p:List (List Av) × Nat) (e1 e2:TypeId) (w:World) (en:Ending) (w':World):Prop :=
 (p.1=[]/\en=.returned (.tuple #[.slice none 0 0,.int .i64 (p.2:Nat)])/\Below w.heap.size w w') \/
 (p.2=0/\∃ g gs,en=.returned (.tuple #[zaH g p.1.length,.int .i64 0])/\zas w' w.heap.size g gs p.1 0 e1 e2/\Below w.heap.size w w')
theorem zff (h:p=([],n)) (hb:Below w.heap.size w w'):zga p e1 e2 w (.returned (.tuple #[.slice none 0 0,.int .i64 (n:Nat)])) w':=by subst h;exact .inl ⟨rfl,rfl,hb⟩
theorem zsO (h:p=(D,0)) (hd:zas w' w.heap.size g gs D 0 e1 e2) (hb:Below w.heap.size w w'):zga p e1 e2 w (.returned (.tuple #[zaH g D.length,.int .i64 0])) w':=by
 subst h;exact .inr ⟨rfl,g,gs,rfl,hd,hb⟩
def zel (s:Bs):Prop:=(zv s).1.length<=s.length/\(∀ x∈(zv s).2.1,x.length<=s.length)/\(zv s).2.1.length<=s.length/\(zv s).2.2.length<=s.length/\∀ p∈(zv s).2.2,p.length<=s.length+1/\∀ x∈p,x.length<=s.length
theorem zsP:∀ (n:Nat) (s:Bs),s.length=n->zel s:=by
 intro n
 induction n using Nat.strongRecOn with
 | _ n ih =>
  intro s hs
  cases s with
  | nil=>simp [zel,zv]
  | cons c r =>
   by_cases bE:c=92
   ·subst bE
    have hd:((92 :: r).drop 2).length=(92 :: r:Bs).length - 2:=by simp
    obtain ⟨h1,h2,h3,h4,h5⟩:=ih ((92 :: r).drop 2).length (by rw [hd];simp at hs ⊢;omega) _ rfl
    unfold zel
    rw [zeN]
    refine ⟨by rw [List.length_append];have:((92 :: r:Bs).take 2).length=min 2 (92 :: r:Bs).length:=List.length_take;omega,fun x hx=>?_,?_,?_,fun p hp=>⟨?_,fun x hx=>?_⟩⟩
    ·have:=h2 x hx;omega
    ·show (zv ((92 :: r).drop 2)).2.1.length<=_;omega
    ·show (zv ((92 :: r).drop 2)).2.2.length<=_;omega
    ·have:=(h5 p hp).1;omega
    have:=(h5 p hp).2 x hx;omega
   obtain ⟨h1,h2,h3,h4,h5⟩:=ih r.length (by simp at hs;omega) r rfl
   by_cases ll:c=43
   ·subst ll
    unfold zel
    rw [zgX]
    refine ⟨by simp,fun x hx=>?_,by simp;omega,by show (zv r).2.2.length<=_;simp;omega,fun p hp=>⟨?_,fun x hx=>?_⟩⟩
    ·rcases List.mem_cons.1 hx with rfl | hx
     ·simp;omega
     have:=h2 x hx;simp;omega
    ·have:=(h5 p hp).1;simp;omega
    have:=(h5 p hp).2 x hx;simp;omega
   by_cases fC:c=44
   ·subst fC
    unfold zel
    rw [zgY]
    refine ⟨by simp,fun x hx=>by simp at hx,by simp,by simp;omega,fun p hp=>?_⟩
    rcases List.mem_cons.1 hp with rfl | hp
    ·refine ⟨by simp;omega,fun x hx=>?_⟩
     rcases List.mem_cons.1 hx with rfl | hx
     ·simp;omega
     have:=h2 x hx;simp;omega
    exact ⟨by have:=(h5 p hp).1;simp;omega,fun x hx=>by have:=(h5 p hp).2 x hx;simp;omega⟩
   unfold zel
   rw [zd1 c r bE ll fC]
   exact ⟨by simp;omega,fun x hx=>by have:=h2 x hx;simp;omega,by show (zv r).2.1.length<=_;simp;omega,by show (zv r).2.2.length<=_;simp;omega,fun p hp=>⟨by have:=(h5 p hp).1;simp;omega,fun x hx=>by have:=(h5 p hp).2 x hx;simp;omega⟩⟩
theorem zsQ (s:Bs):(zbh s).length<=s.length+1/\(∀ p∈zbh s,p.length<=s.length+1)/\∀ p∈zbh s,∀ x∈p,x.length<=s.length:=by
 obtain ⟨h1,h2,h3,h4,h5⟩:=zsP s.length s rfl
 unfold zbh zc4
 refine ⟨by simp;omega,fun p hp=>?_,fun p hp x hx=>?_⟩
 ·rcases List.mem_cons.1 hp with rfl | hp
  ·simp;omega
  exact (h5 p hp).1
 rcases List.mem_cons.1 hp with rfl | hp
 ·simp at hx
  rcases hx with rfl | hx
  ·exact h1
  exact h2 x hx
 exact (h5 p hp).2 x hx
theorem zsR (s:Bs) (h:4096<s.length):rdD s=([],3):=by rw [rdD,if_pos h]
theorem zsS (s:Bs) (h:¬ 4096<s.length) (h2:s≠[]) (h3:rpp (zbh s)=none):rdD s=([],5):=by rw [rdD,if_neg h,if_neg h2,h3]
theorem zlW (s:Bs) (h:¬ 4096<s.length) (h2:s≠[]) {d:List (List Av)} (h3:rpp (zbh s)=some d):rdD s=if lgD d=true then ([],3) else if ckD d≠0 then ([],ckD d) else (d,0):=by rw [rdD,if_neg h,if_neg h2,h3]
theorem zsT {d:List (List Av)} (h:rpp ps=some d):d.length=ps.length:=by
 induction ps generalizing d with
 | nil=>simp [rpp] at h;subst h;rfl
 | cons p r ih =>
  unfold rpp at h
  cases hp:zaz p with
  | none=>rw [hp] at h;cases h
  | some q =>
   rw [hp] at h
   cases hr:rpp r with
   | none=>rw [hr] at h;cases h
   | some e=>rw [hr] at h;simp at h;subst h;simp [ih hr]
theorem zlX (s:ByteArray) (w:World) (he:zD w) :
  Calls prog 104 #[.string s] w (zga (rdD s.data.toList) 144 140 w):=by
 have hl:=zl s
 by_cases h0:4096<s.size
 ·have H:=Hy (zsR s.data.toList Om)
  have h1:(4096:Int)<(s.size:Int):=by omega
  clear h0 hl he
  go_enter func104,ntmps104
  go_wp2
  go_ret2
  exact zff (n:=3) H.o (Br _)
 have h1:(s.size:Int)<=4096:=by omega
 by_cases hz:s.size=0
 ·have hn:s.data.toList=[]:=List.eq_nil_of_length_eq_zero Om
  have H:=Hy (show rdD s.data.toList=([],0) by rw [hn];rfl)
  have dS:=zcF s hz
  clear h0 hl he hz hn
  go_enter func104,ntmps104
  go_wp2
  go_ret2
  exact zff (n:=0) H.o (Br _)
 have dS:=zbW s Om
 have aH:s.data.toList≠[]:=fun e=>by rw [e] at hl;simp at hl;omega
 have qQ:=Hy (zr7 s Om w)
 obtain ⟨q1,q2,q3⟩:=zsQ s.data.toList
 have HP:=Hy (fun v w' (hg:zil w' v (zbh s.data.toList)) (he':zD w')=>zsJ v _ w' hg he' Om (fun p hp=>by have:=q2 p hp;omega) (fun p hp x hx=>by have:=q3 p hp x hx;omega))
 have HF:=Hy (zsS s.data.toList Om aH)
 have HS:=Hy (fun d=>zlW s.data.toList Om aH (d:=d))
 have HL:=Hy (fun d (h:rpp (zbh s.data.toList)=some d)=>show d.length<=5000 by rw [zsT h];omega)
 have HE:=Hy he
 obtain ⟨o,ho⟩:=Ex (rpp (zbh s.data.toList))
 rw [ho] at HP HF HS HL
 clear h0 hl he hz aH ho q1 q2 q3
 go_enter func104,ntmps104
 go_wp2_with fail
 refine qQ.o.mono ?_
 rintro e w2 ⟨v,vs,rfl,hg,hb⟩
 have wE:=Hy (HP.o v w2 (zsB hg) (zax HE.o hb))
 obtain ⟨va,vc,rfl⟩:=zh hg.2.1
 have HB:=Hy hb
 clear hg hb
 cases o with
 | none =>
  change Hd (Calls prog _ _ w2 fun en w'=>en=.returned (.tuple #[.slice none 0 0,.bool false])/\Below w2.heap.size w2 w') at wE
  go_wp2_with fail
  refine wE.o.mono ?_
  rintro e w3 ⟨rfl,aK⟩
  go_wp2
  go_ret2
  exact zff (n:=5) (HF.o (by first | rfl | trivial)) (HB.o.trans (aK.mono HB.o.size))
 | some d =>
  change Hd (Calls prog _ _ w2 fun en w'=>∃ g gs,en=.returned (.tuple #[zaH g d.length,.bool true])/\zas w' w2.heap.size g gs d 0 _ _/\Below w2.heap.size w2 w') at wE
  go_wp2_with fail
  refine wE.o.mono ?_
  rintro e w3 ⟨g,gs,rfl,hd,aK⟩
  unfold zaH
  have Ba:=Hy (zsN _ d w3 (zf9 hd) (by have:=HL.o d rfl;omega))
  have dq:=Hy (zle _ d w3 (zf9 hd))
  unfold zaH at Ba dq
  have HR:=Hy (HS.o d rfl)
  have H3:=Hy (An (HB.o.trans (aK.mono HB.o.size)) (An hd HB.o.size))
  clear hd aK
  obtain ⟨lg,r7⟩:=Ex (lgD d)
  obtain ⟨ck,dP⟩:=Ex (ckD d)
  rw [r7,dP] at HR
  rw [r7] at Ba
  rw [dP] at dq
  clear r7 dP
  cases lg with
  | true =>
   go_wp2_with fail
   refine Ba.o.mono ?_
   rintro e w4 ⟨rfl,hw⟩
   obtain rfl:=hw.symm
   go_wp2
   go_ret2
   exact zff (n:=3) HR.o H3.o.1
  | false =>
   by_cases dP:ck=0
   ·have gG:=Hy (show rdD s.data.toList=(d,0) by rw [HR.o,dP];rfl)
    subst dP
    go_wp2_with fail
    refine Ba.o.mono ?_
    rintro e w4 ⟨rfl,hw⟩
    obtain rfl:=hw.symm
    go_wp2_with fail
    refine dq.o.mono ?_
    rintro e w4 ⟨rfl,bf⟩
    have H4:=Hy (An (zik H3.o.2.1 bf) (H3.o.1.trans (bf.mono H3.o.1.size)))
    clear bf
    go_wp2
    go_ret2
    have h9:=H4.o.1
    exact zsO (gs:=gs) gG.o ⟨Nat.le_trans H3.o.2.2 h9.base,h9.len,h9.outer,fun i hi cG=>⟨Nat.le_trans H3.o.2.2 (h9.rows i hi cG).1,(h9.rows i hi cG).2⟩,h9.nodup⟩ H4.o.2
   have gG:=Hy (show rdD s.data.toList=([],ck) by rw [HR.o,if_neg Sm,if_pos dP])
   have hq:((ck:Int) != 0)=true:=by simp;omega
   clear dP
   go_wp2_with fail
   refine Ba.o.mono ?_
   rintro e w4 ⟨rfl,hw⟩
   obtain rfl:=hw.symm
   go_wp2_with fail
   refine dq.o.mono ?_
   rintro e w4 ⟨rfl,bf⟩
   have H4:=Hy (H3.o.1.trans (bf.mono H3.o.1.size))
   clear bf
   go_wp2
   go_ret2
   exact zff gG.o H4.o
end Go.Proofs.YtijglbolppkefaaGreatDoor
