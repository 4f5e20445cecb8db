/- The document's class of a name. -/
import Derived.Test.YtijglbolppkefaaGreatDoorScAD
import Derived.Test.YtijglbolppkefaaGreatDoorGenA
import Derived.Test.YtijglbolppkefaaGreatDoorSnAL
set_option linter.unusedVariables false
set_option linter.unusedSimpArgs false
set_option maxHeartbeats 25600000
set_option maxRecDepth 100000
namespace Go.Proofs.YtijglbolppkefaaGreatDoor
open Go.Proofs.Tryz
open Go Go.RowKit Go.Proofs.BerK Go.Proofs.MemK Go.Proofs.UtfK
variable {w w' : World} {v : Value} {t : TypeId} {b : Nat}
theorem zqn {p:Prop} (h:p:=by
 go_enter func9,ntmps9
 go_wp2
 rw [br.o]
 go_ret
 exact ⟨.inl rfl,HX.o.2⟩):p:=h
def ClF (o:Option Cl) (w:World) (en:Ending) (w':World):Prop :=
 (o=none/\en=.returned (.tuple #[.agg #[.string ⟨#[]⟩,.slice none 0 0,.slice none 0 0],.bool false])/\Below w.heap.size w w') \/
 (∃ c,o=some c/\∃ am cm ay cy,en=.returned (.tuple #[.agg #[.string ⟨c.1.toArray⟩,.slice am c.2.1.length cm,.slice ay c.2.2.length cy],.bool true])/\(TxR w' (.slice am c.2.1.length cm) c.2.1/\TxR w' (.slice ay c.2.2.length cy) c.2.2/\zam (.slice am c.2.1.length cm)/\zam (.slice ay c.2.2.length cy)/\(∀ g o,am=some ⟨g,o,none⟩->w.heap.size<=g)/\∀ g o,ay=some ⟨g,o,none⟩->w.heap.size<=g)/\Below w.heap.size w w')
theorem zqo {B:Nat} {e:TypeId} {size:Nat} {n:Nat} {xs:List Value} (h:w.ownsRow B e size v n xs):zam v:=by
 rcases h.2 with ⟨rfl,_⟩ | ⟨g,cap,cur,rfl,_⟩
 ·exact .inl rfl
 exact .inr ⟨_,_,_,rfl⟩
theorem zAX (T:List Cl) (tv cv:Value) (s:Bs) (w:World) (h:zai w cv T) (dV:T.length<=1000000) (hb:∀ t∈T,t.1.length<=140737488355328) (kg:∀ t∈T,t.2.1.length<=1000000/\t.2.2.length<=1000000/\(∀ x∈t.2.1,x.length<=140737488355328)/\∀ x∈t.2.2,x.length<=140737488355328) (hs:s.length<=140737488355328) :
  Calls prog 83 #[.agg #[tv,cv],.string ⟨s.toArray⟩] w (ClF (scC T s) w):=by
 obtain ⟨a,c,rfl,ae⟩:=h
 have HM:=Hy ae
 have uZ:=Hy hb
 have Je:=Hy kg
 have HY:=Hy (zxP (C:=T) (s:=s))
 have HN:=Hy (zxQ (C:=T) (s:=s))
 have rt:=Hy (fun w=>show Calls prog 82 #[.string ⟨s.toArray⟩] w (zG (za s) w) from zb4 ⟨s.toArray⟩ hs w)
 obtain ⟨LS,mr⟩:=Ex (za s)
 rw [mr] at rt HY HN
 obtain ⟨R,hR⟩:=Ex (scC T s)
 rw [hR] at HY HN ⊢
 obtain ⟨n,hn⟩:=Ex T.length
 have HL:=Hy hn
 rw [hn] at dV ⊢
 have aE:Below w.heap.size w ((w.alloc (.cells #[tv,.slice a n c] 31)).alloc (.cells #[.string ⟨#[]⟩,.slice none 0 0,.slice none 0 0] 72)):=((Br w).alloc Lr _).alloc Sm _
 have bB:((w.alloc (.cells #[tv,.slice a n c] 31)).alloc (.cells #[.string ⟨#[]⟩,.slice none 0 0,.slice none 0 0] 72)).heap[w.heap.size]?=some (.cells #[tv,.slice a n c] 31 (0,0)):=za0 (heap_alloc_new w _) _
 have d7:((w.alloc (.cells #[tv,.slice a n c] 31)).alloc (.cells #[.string ⟨#[]⟩,.slice none 0 0,.slice none 0 0] 72)).heap[w.heap.size+1]?=some (.cells #[.string ⟨#[]⟩,.slice none 0 0,.slice none 0 0] 72 (0,0)):=by
  have:=heap_alloc_new (w.alloc (.cells #[tv,.slice a n c] 31)) (.cells #[.string ⟨#[]⟩,.slice none 0 0,.slice none 0 0] 72)
  rw [World.size_alloc] at this
  exact this
 have aW:((w.alloc (.cells #[tv,.slice a n c] 31)).alloc (.cells #[.string ⟨#[]⟩,.slice none 0 0,.slice none 0 0] 72)).heap.size=w.heap.size+2:=by simp
 obtain ⟨W1,aB⟩:=Ex ((w.alloc (.cells #[tv,.slice a n c] 31)).alloc (.cells #[.string ⟨#[]⟩,.slice none 0 0,.slice none 0 0] 72))
 have br:=Hy aB
 rw [aB] at aE bB d7 aW
 have HX:=Hy (An bB (An d7 (An aE aW)))
 clear ae hR hn hb kg hs mr aB aE bB d7 aW
 go_enter func83,ntmps83
 go_wp2
 rw [br.o]
 go_loopw [6] (fun v wr=>∃ i:Nat,i<=n/\v=.int .i64 (i:Nat)/\Below (w.heap.size+2) W1 wr/\∀ j (hj:j<T.length),j<i->(za T[j].1==LS)=false) (fun v _=>n - (intOf v).toNat)
 case atStart=>exact ⟨0,by omega,rfl,Br _,fun j _ h=>by omega⟩
 case round =>
  obtain ⟨i,hi,rfl,hb,af⟩:=hrel
  have cQ:=hb.size
  have mP:=HX.o.2.2.2
  have x0:=zj HX.o.1 hb Om
  have x1:=zj HX.o.2.1 hb Om
  obtain ⟨b0,b1⟩:=zf x0
  by_cases aj:i<n
  ·have cW:(i:Int)<(n:Int):=by omega
   have cJ:i<T.length:=by rw [HL.o];exact aj
   obtain ⟨g,o,mu,ma,rfl,hg,aU,aP,cI,pB,dA,_⟩:=HM.o i cJ
   have aq:=HX.o.2.2.1.trans (hb.mono Om)
   have e0:=(aq.cell (p:=⟨g,_,none⟩) hg).trans aU
   have e1:=(aq.cell (p:=⟨g,_,none⟩) hg).trans aP
   have e2:=(aq.cell (p:=⟨g,_,none⟩) hg).trans cI
   have zg:=Nat.lt_of_lt_of_le hg aq.size
   obtain ⟨mua,muc,vt,_⟩:=id pB
   obtain ⟨maa,mac,xh,_⟩:=id dA
   obtain ⟨n1,de⟩:=Ex (T[i].2.1.length)
   obtain ⟨n2,kE⟩:=Ex (T[i].2.2.length)
   rw [de] at vt
   rw [kE] at xh
   subst vt xh
   have sN:=Hy (An (zA pB aq) (zA dA aq))
   clear de kE
   have aY:=uZ.o _ (List.getElem_mem cJ)
   have mw:=Je.o _ (List.getElem_mem cJ)
   have I':=Hy (fun h=>HY.o i cJ af h)
   have Ja:=Hy (fun (hx:(za T[i].1==LS)=false) j (hj:j<T.length) (sd:j<i+1)=>(show (za T[j].1==LS)=false by
    by_cases fB:j=i
    ·subst fB;exact hx
    exact af j hj Om))
   obtain ⟨nm,aJ⟩:=Ex (T[i].1)
   obtain ⟨ml,fb⟩:=Ex (T[i].2.1)
   obtain ⟨yl,o7⟩:=Ex (T[i].2.2)
   rw [aJ] at e0 aY
   rw [fb,o7] at sN mw
   have iW:=Hy (fun w=>show Calls prog 82 #[.string ⟨nm.toArray⟩] w (zG (za nm) w) from zb4 ⟨nm.toArray⟩ aY w)
   have ru:=Hy (fun w' (hb:Below wr.heap.size wr w')=>zqg ml (.slice mua n1 muc) w' (zA sN.o.1 hb) mw.1 mw.2.2.1)
   have Nl:=Hy (fun w' (hb:Below wr.heap.size wr w')=>zqg yl (.slice maa n2 mac) w' (zA sN.o.2 hb) mw.2.1 mw.2.2.2)
   obtain ⟨LX,mt⟩:=Ex (za nm)
   obtain ⟨LM,iL⟩:=Ex (ml.map za)
   obtain ⟨LY,Jf⟩:=Ex (yl.map za)
   have HE:=Hy (show za T[i].1=LX/\T[i].2.1.map za=LM/\T[i].2.2.map za=LY from ⟨by rw [aJ,mt],by rw [fb,iL],by rw [o7,Jf]⟩)
   rw [mt] at iW
   rw [iL] at ru
   rw [Jf] at Nl
   have HB:=Hy (An hb (An x0 x1))
   clear hb af x0 x1 aU aP cI pB dA aJ fb o7 mt iL Jf aY mw aq sN
   go_wp2_with fail
   clear e0 e1 e2 b0 b1
   refine (iW.o _).mono ?_
   rintro en w5 ⟨rfl,ai⟩
   obtain ⟨y7,jW⟩:=zki ai
   obtain ⟨c0,c1,c2⟩:=ze y7
   have e8:=jW.size
   have bY:=Hy (An (HB.o.1.trans (jW.mono Om)) (An (zj HB.o.2.2 jW Om) (An y7 jW)))
   clear ai jW y7
   go_wp2_with fail
   refine (rt.o _).mono ?_
   rintro en w6 ⟨rfl,az⟩
   have y7:=Ob bY.o.2.2.1 az
   have y1:=zj bY.o.2.1 az Om
   have fz:=az.size
   have xS:=bY.o.2.2.2.trans (az.mono e8)
   have d9:=Hy (An (bY.o.1.trans (az.mono Om)) (An y1 (An y7 xS)))
   have z7:wr.heap.size<w6.heap.size:=zi y7
   have z1:w.heap.size+1<w6.heap.size:=by omega
   clear az c0 c1 c2 xS
   cases hq:(LX==LS)
   ·have HI:=Hy (Ja.o (by rw [HE.o.1];exact hq))
    clear y7 y1
    go_wp2
    exact ⟨⟨i+1,by omega,by go_num,d9.o.1,HI.o⟩,by simp [intOf];omega⟩
   have HR:=Hy (show R=some (LX,LM,LY) by rw [I'.o (by rw [HE.o.1];exact hq),HE.o.1,HE.o.2.1,HE.o.2.2])
   obtain ⟨c0,c1,c2⟩:=ze y7
   have r0:=(ze y1).1
   have r1:=(ze y1).2.1
   have r2:=(ze y1).2.2
   have f0:=zc y1 0
   have f1:=zc y1 1
   have f2:=zc y1 2
   have ax:Below w6.heap.size w6 w6:=Br _
   have aH:wr.heap.size≠w.heap.size+1:=by omega
   clear y7 y1
   go_wp2_with fail
   go_region_held3 (fun w'=>w'.cell? ⟨wr.heap.size,0,none⟩=some (.string ⟨nm.toArray⟩)/\w'.cell? ⟨wr.heap.size,1,none⟩=some (.slice mua n1 muc)/\w'.cell? ⟨wr.heap.size,2,none⟩=some (.slice maa n2 mac)) (first | exact ⟨e0,e1,e2⟩ | exact ⟨c0,c1,c2⟩ | exact ⟨(zY aH _ _ _ _ _ _ _).trans e0,(zY aH _ _ _ _ _ _ _).trans e1,(zY aH _ _ _ _ _ _ _).trans e2⟩ | go_keep)
    (first | (go_at_call 82;(with_reducible refine (iW.o _).mono ?_);rintro en w7 ⟨rfl,aR⟩;have ax:Below w6.heap.size w6 w7:=(by first | exact ax.trans (aR.mono ax.size) | exact (Br w6).drew.trans aR);have e0:=(ax.cell (p:=⟨wr.heap.size,0,none⟩) z7).trans c0;have e1:=(ax.cell (p:=⟨wr.heap.size,1,none⟩) z7).trans c1;have e2:=(ax.cell (p:=⟨wr.heap.size,2,none⟩) z7).trans c2;have s0:=(ax.cell (p:=⟨w.heap.size+1,0,none⟩) z1).trans r0;have s1:=(ax.cell (p:=⟨w.heap.size+1,1,none⟩) z1).trans r1;have s2:=(ax.cell (p:=⟨w.heap.size+1,2,none⟩) z1).trans r2;have t0:=(ax.frozen (p:=⟨w.heap.size+1,0,none⟩) z1).trans f0;have t1:=(ax.frozen (p:=⟨w.heap.size+1,1,none⟩) z1).trans f1;have t2:=(ax.frozen (p:=⟨w.heap.size+1,2,none⟩) z1).trans f2;have E3:=Hy (d9.o.2.2.2.trans (ax.mono d9.o.2.2.2.size))) | (go_at_call 120;(with_reducible refine (ru.o _ (by first | exact E3.o | exact d9.o.2.2.2.drew)).mono ?_);rintro en w7 ⟨am,cm,rfl,qp,aR⟩;have hszM:=ax.size;have pu:=Hy (An (zqo qp) (fun g o (e:am=some ⟨g,o,none⟩)=>(show w.heap.size<=g by have h1:=(qp.lt g (by rw [e];rfl)).1;omega)));have HMg:=Hy (fun g o (e:am=some ⟨g,o,none⟩)=>(show g≠w.heap.size+1 by have h1:=(qp.lt g (by rw [e];rfl)).1;omega));have ax:Below w6.heap.size w6 w7:=(by first | exact ax.trans (aR.mono ax.size) | exact (Br w6).drew.trans aR);have e0:=(ax.cell (p:=⟨wr.heap.size,0,none⟩) z7).trans c0;have e1:=(ax.cell (p:=⟨wr.heap.size,1,none⟩) z7).trans c1;have e2:=(ax.cell (p:=⟨wr.heap.size,2,none⟩) z7).trans c2;have s0:=(ax.cell (p:=⟨w.heap.size+1,0,none⟩) z1).trans r0;have s1:=(ax.cell (p:=⟨w.heap.size+1,1,none⟩) z1).trans r1;have s2:=(ax.cell (p:=⟨w.heap.size+1,2,none⟩) z1).trans r2;have t0:=(ax.frozen (p:=⟨w.heap.size+1,0,none⟩) z1).trans f0;have t1:=(ax.frozen (p:=⟨w.heap.size+1,1,none⟩) z1).trans f1;have t2:=(ax.frozen (p:=⟨w.heap.size+1,2,none⟩) z1).trans f2;have E3:=Hy (d9.o.2.2.2.trans (ax.mono d9.o.2.2.2.size));have HTM:=Hy (zaL qp)) | (go_at_call 120;(with_reducible refine (Nl.o _ (by first | exact E3.o | exact d9.o.2.2.2.drew)).mono ?_);rintro en w7 ⟨ay,cy,rfl,qp,aR⟩;have hszY:=ax.size;have Nn:=Hy (An (zqo qp) (fun g o (e:ay=some ⟨g,o,none⟩)=>(show w.heap.size<=g by have h1:=(qp.lt g (by rw [e];rfl)).1;omega)));have HYg:=Hy (fun g o (e:ay=some ⟨g,o,none⟩)=>(show g≠w.heap.size+1 by have h1:=(qp.lt g (by rw [e];rfl)).1;omega));have Jg:=Hy (zA HTM.o aR);have ax:Below w6.heap.size w6 w7:=(by first | exact ax.trans (aR.mono ax.size) | exact (Br w6).drew.trans aR);have e0:=(ax.cell (p:=⟨wr.heap.size,0,none⟩) z7).trans c0;have e1:=(ax.cell (p:=⟨wr.heap.size,1,none⟩) z7).trans c1;have e2:=(ax.cell (p:=⟨wr.heap.size,2,none⟩) z7).trans c2;have s0:=(ax.cell (p:=⟨w.heap.size+1,0,none⟩) z1).trans r0;have s1:=(ax.cell (p:=⟨w.heap.size+1,1,none⟩) z1).trans r1;have s2:=(ax.cell (p:=⟨w.heap.size+1,2,none⟩) z1).trans r2;have t0:=(ax.frozen (p:=⟨w.heap.size+1,0,none⟩) z1).trans f0;have t1:=(ax.frozen (p:=⟨w.heap.size+1,1,none⟩) z1).trans f1;have t2:=(ax.frozen (p:=⟨w.heap.size+1,2,none⟩) z1).trans f2;have E3:=Hy (d9.o.2.2.2.trans (ax.mono d9.o.2.2.2.size));have HTY:=Hy (zaL qp)))
   have y1:=zj d9.o.2.1 ax z1
   have HF:=Hy (An (zgJ Jg.o HMg.o 0 1 2 (.string ⟨LX.toArray⟩) (.slice am LM.length cm) (.slice ay LY.length cy)) (An (zgJ HTY.o HYg.o 0 1 2 (.string ⟨LX.toArray⟩) (.slice am LM.length cm) (.slice ay LY.length cy)) (An (HX.o.2.2.1.trans ((d9.o.1.trans (ax.mono Om)).mono Om)) y1)))
   clear e0 e1 e2 s0 s1 s2 t0 t1 t2 ax aR qp y1
   go_wp2
   obtain ⟨j0,j1,j2⟩:=ze (zbR HF.o.2.2.2 (.string ⟨LX.toArray⟩) (.slice am LM.length cm) (.slice ay LY.length cy))
   refine bodyPost_ret (v:=.tuple #[.agg #[.string ⟨LX.toArray⟩,.slice am LM.length cm,.slice ay LY.length cy],.bool true]) (by simp [results,results83,go_sem, *]) rfl ?_
   exact .inr ⟨(LX,LM,LY),HR.o,am,cm,ay,cy,rfl,⟨HF.o.1,HF.o.2.1,pu.o.1,Nn.o.1,pu.o.2,Nn.o.2⟩,zbV HF.o.2.2.1 Om _ _ _⟩
  obtain rfl:i=n:=by omega
  have HR:=Hy (HN.o (fun j hj=>af j hj (by rw [<- HL.o];exact hj)))
  have r0:=(ze x1).1
  have r1:=(ze x1).2.1
  have r2:=(ze x1).2.2
  have f0:=zc x1 0
  have f1:=zc x1 1
  have f2:=zc x1 2
  have HB:=Hy (An (HX.o.2.2.1.trans (hb.mono Om)) x1)
  clear hb af x0 x1
  go_wp2
  obtain ⟨j0,j1,j2⟩:=ze (zbR HB.o.2 (.string ⟨#[]⟩) (.slice none 0 0) (.slice none 0 0))
  refine bodyPost_ret (v:=.tuple #[.agg #[.string ⟨#[]⟩,.slice none 0 0,.slice none 0 0],.bool false]) (by simp [results,results83,go_sem, *]) rfl ?_
  exact .inl ⟨HR.o,rfl,zbV HB.o.1 Om _ _ _⟩
theorem zhI (l1 l2:List (Bs)) (v1 v2:Value) (w:World) (h1:TxR w v1 l1) (h2:TxR w v2 l2) (hl:l1.length<=1000000) (eF:l2.length<=1000000) :
  Calls prog 13 #[v1,v2] w (BB (decide (l1=l2)) w):=by
 obtain ⟨a1,c1,rfl,gj⟩:=h1
 obtain ⟨a2,c2,rfl,dG⟩:=h2
 have tj:=Hy gj
 have oN:=Hy dG
 obtain ⟨R,hR⟩:=Ex (decide (l1=l2))
 have HR:=Hy hR
 rw [hR]
 obtain ⟨n,hn⟩:=Ex l1.length
 obtain ⟨m,hm⟩:=Ex l2.length
 have HL:=Hy (An hn hm)
 rw [hn] at hl ⊢
 rw [hm] at eF ⊢
 clear gj dG hR hn hm
 by_cases aJ:n=m
 ·subst aJ
  go_enter func13,ntmps13
  go_wp2
  go_loopw [5] (fun v5 wr=>∃ k q:Nat,v5=.int .i64 k/\k<=n/\wr=w.drewN q/\∀ j (h1:j<l1.length) (h2:j<l2.length),j<k->l1[j]=l2[j]) (fun v5 _=>n - (intOf v5).toNat)
  case atStart=>exact ⟨0,0,rfl,Nat.zero_le _,rfl,fun j _ _ h=>by omega⟩
  case round =>
   obtain ⟨k,q,rfl,hk,rfl,af⟩:=hrel
   by_cases aj:k<n
   ·have fM:k<l1.length:=by rw [HL.o.1];exact aj
    have iC:k<l2.length:=by rw [HL.o.2];exact aj
    obtain ⟨g1,o1,rfl,bI,e1⟩:=tj.o k fM
    obtain ⟨g2,o2,rfl,cf,e2⟩:=oN.o k iC
    have gT:=Hy (fun (hx:l1[k]=l2[k]) j (h1:j<l1.length) (h2:j<l2.length) (h:j<k+1)=>(show l1[j]=l2[j] by
     by_cases e:j=k
     ·subst e;exact hx
     exact af j h1 h2 Om))
    have mj:=Hy (fun (hx:l1[k]≠l2[k])=>(show l1≠l2 from fun e=>hx (by subst e;rfl)))
    obtain ⟨x,hx⟩:=Ex (l1[k])
    obtain ⟨y,hy⟩:=Ex (l2[k])
    have jR:=Hy (An hx hy)
    rw [hx] at e1
    rw [hy] at e2
    clear hx hy af
    have hi1:(k:Int)<(n:Int):=by omega
    cases mO:(x==y)
    ·have lB:=Hy (show R=false by
      rw [<- HR.o,decide_eq_false_iff_not]
      exact mj.o (by rw [jR.o.1,jR.o.2];simpa using mO))
     go_wp2
     go_quiet (fail)
     go_wp2
     go_ret
     exact zB lB.o (zae (zae (Br _) _) _)
    have HN:=Hy (gT.o (by rw [jR.o.1,jR.o.2];simpa using mO))
    go_wp2
    go_quiet (fail)
    go_wp2
    exact ⟨⟨k+1,q+nq,by go_num,by omega,rfl,HN.o⟩,by simp [intOf];omega⟩
   obtain rfl:k=n:=by omega
   have IF:=Hy (show R=true by
    rw [<- HR.o,decide_eq_true_eq]
    exact List.ext_getElem (by rw [HL.o.1,HL.o.2]) (fun j h1 h2=>af j h1 h2 (by rw [<- HL.o.1];exact h1)))
   clear af
   go_wp2
   go_ret
   exact zB IF.o (zae (Br _) _)
 have lB:=Hy (show R=false by
  rw [<- HR.o,decide_eq_false_iff_not]
  intro e
  subst e
  exact aJ (by rw [<- HL.o.1,<- HL.o.2]))
 have q1:((n:Int) != (m:Int))=true:=by rw [bne_iff_ne];omega
 clear aJ
 go_enter func13,ntmps13
 go_wp2
 go_ret
 exact zB lB.o (Br _)
theorem zAY (s:ByteArray) (r:Int) (b:Bool) (w:World):Calls prog 25 #[.string s,.int .i64 r,.bool b] w (fun en w'=>en=.returned (.agg #[.string s,.int .i64 r,.bool b])/\Below w.heap.size w w'):=by
 obtain ⟨W0,aN⟩:=Ex (w.alloc (.cells #[.string s,.int .i64 r,.bool b] 69))
 have x0:=Nw aN
 have aE:=Nb aN
 have gD:=Hy aN
 have HB:=Hy aE
 have HX:=Hy x0
 clear aN aE x0
 go_enter func25,ntmps25
 go_wp2
 rw [gD.o]
 obtain ⟨j0,j1,j2⟩:=ze HX.o
 refine bodyPost_ret (v:=.agg #[.string s,.int .i64 r,.bool b]) (by simp [results,results25,go_sem, *]) rfl ?_
 exact ⟨rfl,HB.o⟩
theorem zAZ {g:Nat} {a b:Value} (h:w.heap[g]?=some (.cells #[a,b] t (0,0))) (c d:Value):((w.setCell ⟨g,0,none⟩ c).setCell ⟨g,1,none⟩ d).heap[g]?=some (.cells #[c,d] t (0,0)):=zH (zH h 0 c) 1 d
theorem zqp {k:Nat} {s:ByteArray} (h:w.heap[b]?=some (.cells #[.slice none 0 0,.slice none 0 0] t (0,0))) (hc:w.cell? ⟨b,k,none⟩=some (.string s)):False:=by
 rw [cell_of_row w b k _ t (0,0) h] at hc
 match k with
 | 0=>cases hc
 | 1=>cases hc
 | k+2=>simp at hc
theorem zqq {l:List (Bs)} (h:w.heap[b]?=some (.cells #[.slice none 0 0,.slice none 0 0] t (0,0))) (hc:Chg (fun k=>k=b) w w') (hv:TxR w v l):TxR w' v l:=by
 obtain ⟨a,c,rfl,hq⟩:=hv
 refine ⟨a,c,rfl,fun i hi=>?_⟩
 obtain ⟨g,o,h1,h2,h3⟩:=hq i hi
 have aH:g≠b:=fun e=>by subst e;exact zqp h h3
 exact ⟨g,o,h1,Nat.lt_of_lt_of_le h2 hc.size,(World.cell?_of_block (w:=w) (a:=⟨g,_,none⟩) (hc.block g h2 aH)).trans h3⟩
theorem zA0 {C:List Cl} (h:w.heap[b]?=some (.cells #[.slice none 0 0,.slice none 0 0] t (0,0))) (hc:Chg (fun k=>k=b) w w') (hv:zai w v C):zai w' v C:=by
 obtain ⟨a,c,rfl,hq⟩:=hv
 refine ⟨a,c,rfl,fun i hi=>?_⟩
 obtain ⟨g,o,mu,ma,h1,h2,h3,h4,h5,h6,h7,h8⟩:=hq i hi
 have aH:g≠b:=fun e=>by subst e;exact zqp h h3
 have bG:=fun k=>World.cell?_of_block (w:=w) (a:=⟨g,k,none⟩) (hc.block g h2 aH)
 exact ⟨g,o,mu,ma,h1,Nat.lt_of_lt_of_le h2 hc.size,(bG _).trans h3,(bG _).trans h4,(bG _).trans h5,zqq h hc h6,zqq h hc h7,h8⟩
def zkm (dn:Bs) (A:List Atr):Prop:=dn.length<=300/\A.length<=12/\∀ i (hi:i<A.length),A[i].1.length<=80/\A[i].2.length<=8/\∀ j (hj:j<A[i].2.length),A[i].2[j].length<=300
def zA1 (dn:Bs) (A:List Atr) (w:World) (en:Ending) (w':World):Prop:=(en=.returned (.bool false)\/(en=.returned (.bool true)/\zkm dn A))/\Below w.heap.size w w'
theorem zkn (dn:Bs) (A:List Atr) (av:Value) (w:World) (hA:zaB w av A):Calls prog 9 #[.agg #[.string ⟨dn.toArray⟩,av]] w (zA1 dn A w):=by
 obtain ⟨a,c,rfl,ae⟩:=hA
 have HM:=Hy ae
 obtain ⟨W1,aB⟩:=Ex (w.alloc (.cells #[.string ⟨dn.toArray⟩,.slice a A.length c] 39))
 have y1:=Nw aB
 have au:=Nb aB
 have HX:=Hy (An y1 au)
 have br:=Hy aB
 have xu:=zf y1
 rw [<- aB] at xu
 obtain ⟨b0,b1⟩:=xu
 obtain ⟨n,hn⟩:=Ex A.length
 have HL:=Hy hn
 rw [hn] at b0 b1 br HX ⊢
 clear ae aB y1 au hn
 by_cases h1:300<dn.length
 ·have q1:(300:Int)<(dn.length:Int):=by omega
  clear h1
  exact zqn
 have q1:¬ (300:Int)<(dn.length:Int):=by omega
 by_cases h2:12<n
 ·have q2:(12:Int)<(n:Int):=by omega
  clear h1 h2
  exact zqn
 have q2:¬ (12:Int)<(n:Int):=by omega
 have HD:=Hy (An (Nat.le_of_not_lt h1) (Nat.le_of_not_lt h2))
 clear h1 h2
 go_enter func9,ntmps9
 go_wp2
 rw [br.o]
 clear b0 b1
 go_loopw [3] (fun v wr=>∃ i:Nat,i<=n/\v=.int .i64 (i:Nat)/\Below W1.heap.size W1 wr/\∀ p (hp:p<A.length),p<i->A[p].1.length<=80/\A[p].2.length<=8/\∀ j (hj:j<A[p].2.length),A[p].2[j].length<=300) (fun v _=>n - (intOf v).toNat)
 case atStart=>exact ⟨0,by omega,rfl,Br _,fun p _ h=>by omega⟩
 case round =>
  obtain ⟨i,hi,rfl,hb,af⟩:=hrel
  have x1:=Ob HX.o.1 hb
  obtain ⟨b0,b1⟩:=zf x1
  have aq:=HX.o.2.trans (hb.mono HX.o.2.size)
  by_cases aj:i<n
  ·have cW:(i:Int)<(n:Int):=by omega
   have cJ:i<A.length:=by rw [HL.o];exact aj
   obtain ⟨g,o,vl,rfl,hg,aU,aP,dt⟩:=HM.o i cJ
   obtain ⟨va,vc,rfl,ju⟩:=dt
   have sO:=Hy ju
   have e0:=(aq.cell (p:=⟨g,_,none⟩) hg).trans aU
   have e1:=(aq.cell (p:=⟨g,_,none⟩) hg).trans aP
   have pC:=Hy aP
   have gT:=Hy (fun (hx:A[i].1.length<=80/\A[i].2.length<=8/\∀ j (hj:j<A[i].2.length),A[i].2[j].length<=300) p (hp:p<A.length) (h:p<i+1)=>(show A[p].1.length<=80/\A[p].2.length<=8/\∀ j (hj:j<A[p].2.length),A[p].2[j].length<=300 by
    by_cases e:p=i
    ·subst e;exact hx
    exact af p hp Om))
   obtain ⟨m,hm⟩:=Ex (A[i].2.length)
   have dp:=Hy hm
   rw [hm] at e1 pC
   obtain ⟨nm,aJ⟩:=Ex (A[i].1)
   have iq:=Hy aJ
   rw [aJ] at e0
   have HB:=Hy (An hb (An aq x1))
   clear hb aq af aU aP ju hm aJ x1
   by_cases h3:80<nm.length
   ·have q3:(80:Int)<(nm.length:Int):=by omega
    clear h3
    go_wp2
    go_ret
    exact ⟨.inl rfl,HB.o.2.1⟩
   have q3:¬ (80:Int)<(nm.length:Int):=by omega
   by_cases h4:8<m
   ·have q4:(8:Int)<(m:Int):=by omega
    clear h3 h4
    go_wp2
    go_ret
    exact ⟨.inl rfl,HB.o.2.1⟩
   have q4:¬ (8:Int)<(m:Int):=by omega
   have No:=Hy (An (Nat.le_of_not_lt h3) (Nat.le_of_not_lt h4))
   have hm9:m<=8:=by omega
   clear h3 h4
   go_wp2
   clear b0 b1 e0 e1
   obtain ⟨W2,aL⟩:∃ W2,W2=wr:=⟨_,rfl⟩
   subst aL
   go_loopw [4] (fun v wz=>∃ k:Nat,k<=m/\v=.int .i64 (k:Nat)/\Below W2.heap.size W2 wz/\∀ j (hj:j<A[i].2.length),j<k->A[i].2[j].length<=300) (fun v _=>m - (intOf v).toNat)
   case atStart=>exact ⟨0,by omega,rfl,Br _,fun j _ h=>by omega⟩
   case round =>
    obtain ⟨k,hk,rfl,cL,dJ⟩:=hrel
    obtain ⟨b0,b1⟩:=zf (Ob HB.o.2.2 cL)
    have ax:=HB.o.2.1.trans (cL.mono HB.o.2.1.size)
    have e1:=(ax.cell (p:=⟨g,_,none⟩) hg).trans pC.o
    by_cases cZ:k<m
    ·have bh:(k:Int)<(m:Int):=by omega
     have aO:k<A[i].2.length:=by rw [dp.o];exact cZ
     obtain ⟨g3,o3,rfl,fq,lD⟩:=sO.o k aO
     have v0:=(ax.cell (p:=⟨g3,_,none⟩) fq).trans lD
     have HNk:=Hy (fun (hx:A[i].2[k].length<=300) j (hj:j<A[i].2.length) (h:j<k+1)=>(show A[i].2[j].length<=300 by
      by_cases e:j=k
      ·subst e;exact hx
      exact dJ j hj Om))
     obtain ⟨x,hx⟩:=Ex (A[i].2[k])
     have sP:=Hy hx
     rw [hx] at v0
     have n8:=Hy (An cL ax)
     clear cL ax dJ lD hx
     by_cases h5:300<x.length
     ·have q5:(300:Int)<(x.length:Int):=by omega
      clear h5
      go_wp2
      go_ret
      exact ⟨.inl rfl,n8.o.2⟩
     have q5:¬ (300:Int)<(x.length:Int):=by omega
     have HN:=Hy (HNk.o (by rw [sP.o];omega))
     clear h5
     go_wp2
     exact ⟨⟨k+1,by omega,by go_num,n8.o.1,HN.o⟩,by simp [intOf];omega⟩
    obtain rfl:k=m:=by omega
    have HN:=Hy (gT.o ⟨by rw [iq.o];exact No.o.1,by rw [dp.o];exact No.o.2,fun j hj=>dJ j hj (by rw [<- dp.o];exact hj)⟩)
    have n8:=Hy (HB.o.1.trans (cL.mono HB.o.1.size))
    clear cL ax dJ
    go_wp2
    exact ⟨⟨i+1,by omega,by go_num,n8.o,HN.o⟩,by simp [intOf];omega⟩
  obtain rfl:i=n:=by omega
  have HF:=Hy (show zkm dn A from ⟨HD.o.1,by rw [HL.o];exact HD.o.2,fun p hp=>af p hp (by rw [<- HL.o];exact hp)⟩)
  have HB:=Hy aq
  clear hb aq af x1
  go_wp2
  go_ret
  exact ⟨.inr ⟨rfl,HF.o⟩,HB.o⟩
end Go.Proofs.YtijglbolppkefaaGreatDoor
