/- The names below one, as the code. -/
import Derived.Test.YtijglbolppkefaaGreatDoorDtLR
import Derived.Test.YtijglbolppkefaaGreatDoorMPlEF
import Derived.Test.YtijglbolppkefaaGreatDoorMDqJ
import Derived.Test.YtijglbolppkefaaGreatDoorDtAC
import Derived.Test.YtijglbolppkefaaGreatDoorDtDI
import Derived.Test.YtijglbolppkefaaGreatDoorSnAL
import Derived.Lib.SlMapMerge
set_option linter.unusedVariables false
set_option linter.unusedSimpArgs false
set_option maxHeartbeats 25600000
set_option maxRecDepth 100000
namespace Go.Proofs.YtijglbolppkefaaGreatDoor
open Go.Proofs.Tryz
open Go Go.RowKit Go.Proofs.BerK Go.Proofs.MemK Go.Proofs.UtfK Go.Maps Go.WideMaps
variable {S : Nat -> Prop} {w w' : World} {L : List Ent} {f5 : Bs -> Option Value} {v : Value}
theorem ziU (h:Chg S w w') {p:Addr} (hg:p.block<w.heap.size) (hS:¬ S p.block):w'.cell? p=w.cell? p:=by
 unfold World.cell?
 rw [h.block p.block hg hS]
def ziV (xs:List (Bs)) (v:Value) (w0 w:World) (en:Ending) (w':World):Prop :=
 ∃ nv,en=.returned nv/\w'.ownsRow w0.heap.size 9 1 nv xs.length (sc xs)/\Below w0.heap.size w0 w'/\Chg (fun k=>some k=v.ownBlock) w w'/\(nv.ownBlock=v.ownBlock\/∃ k,nv.ownBlock=some k/\w.heap.size<=k)
def wkT (out:List (Bs)) (W:Bs->List (Bs)) (K:List Av) (i:Nat):List (Bs):=out++(K.take i).flatMap fun c=>c.2 :: W c.2
theorem zuP (out:List (Bs)) (W:Bs->List (Bs)) (K:List Av):wkT out W K 0=out:=by unfold wkT;simp
theorem zuQ (out:List (Bs)) (W:Bs->List (Bs)) (K:List Av):wkT out W K K.length=out++K.flatMap fun c=>c.2 :: W c.2:=by unfold wkT;rw [List.take_length]
theorem zuR (out:List (Bs)) (W:Bs->List (Bs)) (K:List Av) (i:Nat) (h:i<K.length):wkT out W K (i+1)=wkT out W K i++[K[i].2]++W K[i].2:=by
 unfold wkT
 rw [List.take_succ_eq_append_getElem h,List.flatMap_append]
 simp
theorem zuS (out:List (Bs)) (W:Bs->List (Bs)) (K:List Av) (i:Nat):(wkT out W K i).length<=(out++K.flatMap fun c=>c.2 :: W c.2).length:=by
 unfold wkT
 conv=>rhs;rw [<- List.take_append_drop i K]
 rw [List.flatMap_append]
 simp
theorem zm5 (B g:Nat) (sv:Value) (S:Nat->Prop) (L:List Ent) (w0:World) (h:zU w0 B g sv S L) (p:Bs) (hp:p.length<=140737488355328) (W:Bs->List (Bs)) (K:List Av) (fg:zk L p=K) (out:List (Bs)) (v:Value) (w:World)
  (hb:Below w0.heap.size w0 w) (hv:w.ownsRow w0.heap.size 9 1 v out.length (sc out)) (aF:out.length+(K.flatMap fun c=>c.2 :: W c.2).length<=100000) (hKl:K.length<=1000000)
  (B3:∀ i (hi:i<K.length) o v w',Below w0.heap.size w0 w'->w'.ownsRow w0.heap.size 9 1 v o.length (sc o)->o.length+(W K[i].2).length<=100000->Calls prog 35 #[.pointer (some ⟨g,0,none⟩),.string ⟨K[i].2.toArray⟩,v] w' (ziV (o++W K[i].2) v w0 w')) :
  Calls prog 35 #[.pointer (some ⟨g,0,none⟩),.string ⟨p.toArray⟩,v] w (ziV (out++K.flatMap fun c=>c.2 :: W c.2) v w0 w):=by
 obtain ⟨eb,bb,fe,F,nb,hS,hg,_,_,_,h3,h4⟩:=h
 have zg:=zi hg
 obtain ⟨c0,c1,c2⟩:=ze (zj hg hb zg)
 have aA:=(h4 p).2.1
 have fR:=(h4 p).1
 rw [fg] at aA fR
 obtain ⟨va,vc,lY⟩:=zh aA
 rw [lY] at aA
 have Eu:=Hy (show ∀ wr,Below w0.heap.size w0 wr->∀ i (hi:i<K.length),∃ g,va=some ⟨g,0,none⟩/\wr.cell? ⟨g,i*2,none⟩=some (.string ⟨K[i].1.toArray⟩)/\wr.cell? ⟨g,i*2+1,none⟩=some (.string ⟨K[i].2.toArray⟩) by
  intro wr hb i hi
  rcases aA.2 with ⟨e,h0⟩ | ⟨g,cap,cur,e,_,hg,_⟩
  ·omega
  injection e with e1 e2 e3
  subst e1
  obtain ⟨h1,h2⟩:=zbO K i hi
  have bZ:=zi hg
  exact ⟨g,rfl,(hb.cell (p:=⟨g,i*2,none⟩) bZ).trans ((aA.cellAt _ Om).trans h1),(hb.cell (p:=⟨g,i*2+1,none⟩) bZ).trans ((aA.cellAt _ Om).trans h2)⟩)
 obtain ⟨m,hm⟩:=Ex K.length
 have cZ:(Instr.lookup 60 (.map (some bb)) (.string ⟨p.toArray⟩) false).run prog w=.ok (.slice va m vc) w:=by
  have ug:=za6 h3 (hb.block bb (zaS h3))
  rw [ziu ug underlying60 (ziA w) p hp]
  unfold zS
  rw [fg]
  by_cases h0:K=[]
  ·have e:=fR h0
   rw [lY] at e
   rw [if_pos h0,Option.getD_none,<- e,hm]
  rw [if_neg h0,Option.getD_some,lY,hm]
 have HM:=Hy hm
 have Hl:=zuP out W K
 have Hm:=zuQ out W K
 have sq:=zuR out W K
 have jo:=zuS out W K
 rw [List.length_append] at jo
 obtain ⟨T,hT⟩:=Ex (wkT out W K)
 rw [hT] at Hl Hm sq jo
 rw [<- Hm,hm]
 have HT:=Hy (An (show ∀ i (h:i<K.length),T (i+1)=T i++[K[i].2]++W K[i].2 from sq) (show ∀ i,(T i).length<=100000 from fun i=>Nat.le_trans (jo i) aF))
 have Hn:=Hy B3
 have HV:=Hy (An hb hv)
 have nK:=Hy Hl
 clear B3 Hl Hm sq jo aF hT aA fR lY h3 h4 hg hb hv hm
 go_enter func35,ntmps35
 go_wp2
 clear c0 c1 c2 cZ
 go_loopw [2,16] (fun ov iv wr=>∃ i:Nat,i<=m/\iv=.int .i64 (i:Nat)/\Below w0.heap.size w0 wr/\wr.ownsRow w0.heap.size 9 1 ov (T i).length (sc (T i))/\Chg (fun k=>some k=v.ownBlock) w wr/\(ov.ownBlock=v.ownBlock\/∃ k,ov.ownBlock=some k/\w.heap.size<=k)) (fun _ iv _=>m - (intOf iv).toNat)
 case atStart=>exact ⟨0,by omega,rfl,HV.o.1,by rw [nK.o];exact HV.o.2,Chg.refl _ _,.inl rfl⟩
 case round =>
  obtain ⟨i,hi,rfl,hb,ab,hc,ED⟩:=hrel
  by_cases aj:i<m
  ·obtain ⟨oa,oc,rfl⟩:=zh ab
   have bh:(i:Int)<(m:Int):=by omega
   have Bo:i<K.length:=by rw [HM.o];exact aj
   obtain ⟨vg,rfl,a0,a1⟩:=Eu.o wr hb i Bo
   have oW:=HT.o.1 i Bo
   have pQ:=Hy (show (T i).length+1+(W K[i].2).length<=100000 by have:=HT.o.2 (i+1);rw [oW] at this;simp at this;omega)
   obtain ⟨⟨l0,m0⟩,Ho⟩:∃ x,K[i]=x:=⟨_,rfl⟩
   rw [Ho] at a0 a1 pQ oW
   dsimp only at a0 a1 pQ oW
   have L8:=Hy Ho
   have HKn:=Hy oW
   obtain ⟨W5,eQ⟩:=Ex (wr.alloc (.cells #[.string ⟨l0.toArray⟩,.string ⟨m0.toArray⟩] 79))
   have ai:=Nb eQ
   have y5:=Nw eQ
   obtain ⟨f0,f1⟩:=zf y5
   have zx:=zi y5
   have H:=Hy (An hb (An ai (An ab (An hc ED))))
   have mD:=Hy eQ
   obtain ⟨bx,aD⟩:=Ex wr.heap.size
   rw [aD] at f0 f1 zx
   have jB:=Hy aD
   clear hb ai y5 ab hc ED Ho oW eQ
   go_wp2_with fail
   rw [mD.o]
   try rw [aD]
   clear a0 a1 f0
   have k1:∀ ob,(W5.drew.alloc ob).cell? ⟨bx,1,none⟩=some (.string ⟨m0.toArray⟩):=fun ob=>(((Below.refl W5.heap.size W5).drew.alloc Lr ob).cell (p:=⟨bx,1,none⟩) zx).trans f1
   refine wp_region_noPanic ?_
   refine wp_region_held_drew (S:=fun w'=>w'.cell? ⟨bx,1,none⟩=some (.string ⟨m0.toArray⟩)) Kr ?_ (fun aI=>?_)
   ·exact f1
   refine wpAnyH_take (i:=0) (v:=?vw0) rfl Kr Kr Kr Fh (Or.inl ⟨by rfl,?yw0⟩) As ?rw0
   case yw0=>(intro w' ar;(try dsimp only at ar);go_simp;with_reducible rfl)
   try simp only [Sg,Act.put,Ss]
   refine wpAnyH_take (i:=1) (v:=?vw1) rfl Kr Kr Kr Fh (Or.inl ⟨by rfl,?yw1⟩) As ?rw1
   case yw1=>(intro w' ar;(try dsimp only at ar);go_simp;with_reducible rfl)
   try simp only [Sg,Act.put,Ss]
   refine wpAnyH_take (i:=2) (v:=?vw2) rfl Kr Kr Kr Fh (Or.inl ⟨by rfl,?yw2⟩) As ?rw2
   case yw2=>(intro w' ar;(try dsimp only at ar);go_simp;with_reducible rfl)
   try simp only [Sg,Act.put,Ss]
   refine wpAnyH_take (i:=3) (v:=?vw3) rfl Kr Kr Kr Fh (Or.inl ⟨by rfl,?yw3⟩) As ?rw3
   case yw3=>(intro w' ar;(try dsimp only at ar);go_simp;with_reducible rfl)
   try simp only [Sg,Act.put,Ss]
   refine wpAnyH_take (i:=4) (v:=?vw4) rfl Kr Kr Kr Fh (Or.inl ⟨by rfl,?yw4⟩) As ?rw4
   case yw4=>(intro w' ar;(try dsimp only at ar);go_simp;with_reducible rfl)
   try simp only [Sg,Act.put,Ss]
   refine wpAnyH_take (i:=5) (v:=?vw5) rfl Kr Kr Kr Fh (Or.inl ⟨by rfl,?yw5⟩) As ?rw5
   case yw5=>(intro w' ar;(try dsimp only at ar);go_simp;with_reducible rfl)
   try simp only [Sg,Act.put,Ss]
   refine wpAnyH_ready (rs:=[6]) Kr Sm ?_
   refine AllReadyH.cons (o:=_) rfl (fun KR aM=>?cw6) ?nw6
   case nw6=>exact AllReadyH.nil
   go_simp
   refine aM.out _ _ ?_ (fun aI=>?_)
   ·exact k1 _
   clear aM KR
   try simp only [Sg,Act.put,Ss]
   refine wpAnyH_ready (rs:=[7]) Kr Sm ?_
   refine AllReadyH.cons (o:=_) rfl (fun KR aM=>?cw7) ?nw7
   case nw7=>exact AllReadyH.nil
   have dw:∀ ob,Below wr.heap.size wr (W5.drew.alloc ob):=fun ob=>H.o.2.1.drew.alloc H.o.2.1.size ob
   refine zjW rfl (.tmp 23) (.tmp 26) 47 9 rfl w0.heap.size 1 16 (.string ByteArray.empty) Tryz.dninfo9 underlying47 rfl De (Value.slice oa (T i).length oc) (T i).length (sc (T i)) rfl ?c0 _ 1 [.string ⟨m0.toArray⟩] rfl ?c1 De ?c2 ?c3 ?c4 ?c5 ?_
   case c0=>exact zu H.o.2.2.1 (dw _)
   case c1=>exact ⟨rfl,.inr ⟨_,_,rfl,(by first | exact zeB W5.drew _ _ | exact zeB W5 _ _)⟩⟩
   case c2=>intro u hu;simp at hu;subst hu;rfl
   case c3=>have:=pQ.o;unfold maxLen;omega
   case c4=>have:=pQ.o;omega
   case c5=>exact Nat.le_trans H.o.1.size (dw _).size
   intro nv w7 g1 g2 g3
   obtain ⟨na,nc,rfl⟩:=zh g1
   have Hp:Chg (fun k=>some k=(Value.slice oa (T i).length oc).ownBlock) wr w7:=(Chg.ofBelow (dw _)).trans g2 Fi
   have bp:Below w0.heap.size w0 w7:=H.o.1.trans (Hp.toBelow H.o.1.size (fun k _ hk=>(H.o.2.2.1.lt k hk.symm).1))
   have n1:¬ some bx=(Value.slice oa (T i).length oc).ownBlock:=fun e=>by have:=(H.o.2.2.1.lt bx e.symm).2;rw [jB.o] at this;omega
   have zx7:bx<w7.heap.size:=Nat.lt_of_lt_of_le zx (Nat.le_trans (by show W5.heap.size<=(W5.drew.alloc _).heap.size;simp) g2.size)
   have i1:w7.cell? ⟨bx,1,none⟩=some (.string ⟨m0.toArray⟩):=(ziU g2 (p:=⟨bx,1,none⟩) (Nat.lt_of_lt_of_le zx (by show W5.heap.size<=(W5.drew.alloc _).heap.size;simp)) n1).trans (k1 _)
   have g1:w7.ownsRow w0.heap.size 9 1 (.slice na ((T i).length+1) nc) (T i++[m0]).length (sc (T i++[m0])):=by rw [zei,List.length_append];exact g1
   have g3:(Value.slice na ((T i).length+1) nc).ownBlock=(Value.slice oa (T i).length oc).ownBlock\/∃ k,(Value.slice na ((T i).length+1) nc).ownBlock=some k/\wr.heap.size<k:=by (rcases g3 with e | ⟨k,e1,e2⟩;exact .inl e;refine .inr ⟨k,e1,?_⟩;rw [jB.o];exact Nat.lt_of_lt_of_le zx (Nat.le_trans (by show W5.heap.size<=(W5.drew.alloc _).heap.size;simp) e2))
   have L9:=Hy (fun w' (hb:Below w7.heap.size w7 w')=>Hn.o i Bo (T i++[m0]) (.slice na ((T i).length+1) nc) w' (bp.trans (hb.mono bp.size)) (zu g1 hb) (by have:=pQ.o;rw [L8.o];simp;omega))
   rw [L8.o] at L9
   have H7:=Hy (An g1 (An Hp (An g3 bp)))
   clear g1 g2 g3 Hp bp n1 dw
   refine aM.out _ _ ?_ (fun aI=>?_)
   ·exact i1
   clear aM KR
   try simp only [Sg,Act.put,Ss]
   refine wpAnyH_ready (rs:=[8]) Kr Sm ?_
   refine AllReadyH.cons (o:=_) rfl (fun KR aM=>?cw8) ?nw8
   case nw8=>exact AllReadyH.nil
   go_simp
   go_at_call 35
   with_reducible refine (L9.o _ (by first | exact (Br w7).drew | exact Below.refl _ w7)).mono ?_
   rintro en w8 ⟨v8,rfl,g4,g5,g6,g7⟩
   have g6:Chg (fun k=>some k=(Value.slice na ((T i).length+1) nc).ownBlock) w7 w8:=(by first | exact g6 | exact (Chg.ofBelow (Br w7).drew).trans g6 Fi)
   obtain ⟨ma,mc,rfl⟩:=zh g4
   obtain ⟨N8,Hq⟩:=Ex ((T i++[m0]++W m0).length)
   rw [Hq] at g4 g7 ⊢
   have HN8:=Hy Hq
   clear Hq
   have n2:¬ some bx=(Value.slice na ((T i).length+1) nc).ownBlock:=fun e=>by (rcases H7.o.2.2.1 with q | ⟨k,q,hk⟩;exact absurd (e.trans q) (fun e=>by have:=(H.o.2.2.1.lt bx e.symm).2;rw [jB.o] at this;omega);rw [q] at e;injection e with e;rw [jB.o] at hk;omega)
   have j1:w8.cell? ⟨bx,1,none⟩=some (.string ⟨m0.toArray⟩):=(ziU g6 (p:=⟨bx,1,none⟩) zx7 n2).trans i1
   have H8:=Hy (An g4 (An g5 (An g6 g7)))
   clear g4 g5 g6 g7 n2
   go_wp2_with fail
   refine aM.out _ _ ?_ (fun aI=>?_)
   ·exact j1
   clear aM KR
   try simp only [Sg,Act.put,Ss]
   refine wpAnyH_take (i:=9) (v:=?vw9) rfl Kr Kr Kr Fh (Or.inl ⟨by rfl,?yw9⟩) As ?rw9
   case yw9=>(intro w' ar;(try dsimp only at ar);go_simp;with_reducible rfl)
   try simp only [Sg,Act.put,Ss]
   refine wpAnyH_done Kr ?_ _
   refine NoPanic.normal ?_
   go_wp2
   refine ⟨⟨i+1,by omega,by go_num,H8.o.2.1,by rw [HKn.o,HN8.o];exact H8.o.1,?_,?_⟩,by simp [intOf];omega⟩
   ·refine (H.o.2.2.2.1.trans H7.o.2.1 (fun k hk e=>?_)).trans H8.o.2.2.1 (fun k hk e=>?_)
    ·rcases H.o.2.2.2.2 with q | ⟨j,q,hj⟩
     ·exact e.trans q
     have:=q.symm.trans e.symm
     injection this with this
     omega
    rcases H7.o.2.2.1 with q2 | ⟨j,q2,hj⟩
    ·rcases H.o.2.2.2.2 with q | ⟨j,q,hj⟩
     ·exact (e.trans q2).trans q
     have:=(q2.trans q).symm.trans e.symm
     injection this with this
     omega
    have:=q2.symm.trans e.symm
    injection this with this
    have:=H.o.2.2.2.1.size
    omega
   rcases H8.o.2.2.2 with q3 | ⟨j,q3,hj⟩
   ·rw [q3]
    rcases H7.o.2.2.1 with q2 | ⟨j,q2,hj⟩
    ·rw [q2];exact H.o.2.2.2.2
    exact .inr ⟨j,q2,by have:=H.o.2.2.2.1.size;omega⟩
   exact .inr ⟨j,q3,by have:=H.o.2.2.2.1.size;have:=H7.o.2.1.size;omega⟩
  obtain rfl:i=m:=by omega
  obtain ⟨oa,oc,rfl⟩:=zh ab
  have H:=Hy (An hb (An ab (An hc ED)))
  clear hb ab hc ED
  go_wp2
  go_ret
  exact ⟨_,rfl,H.o.2.1,H.o.1,H.o.2.2.1,H.o.2.2.2⟩
theorem zm6 (hT:TrL L) {p:Bs} {c:Av} (h:c∈zk L p):∃ r D,nrD c.2=some (r :: D)/\(paL c.2).length=(paL p).length+1/\(paL c.2).length<=32:=by
 obtain ⟨e,he,rfl,hp⟩:=zdU h
 have hn:=hT.nm e he
 obtain ⟨p2,l,h1,_,h3,_⟩:=zcA hn
 rw [hp] at h1
 obtain ⟨rfl,_⟩:=Prod.mk.inj h1
 obtain ⟨r,D,hr⟩:=hn
 exact ⟨r,D,hr,by show (paL e.1).length=_;rw [h3];simp,zmO ⟨r,D,hr⟩⟩
theorem ziW {p:Bs} {D:List (List Av)} (h:nrD p=some D):p.length<=4096:=by
 have:=zaA h
 rw [this.1];exact this.2.2.2
theorem zm7 (B g:Nat) (sv:Value) (S:Nat->Prop) (L:List Ent) (w0:World) (h:zU w0 B g sv S L) (hT:TrL L) (hl:L.length<=1024):∀ (n:Nat) (p:Bs) (D:List (List Av)) (out:List (Bs)) (v:Value) (w:World),
  nrD p=some D->32<=(paL p).length+n->Below w0.heap.size w0 w->w.ownsRow w0.heap.size 9 1 v out.length (sc out)->out.length+(zat n L p).length<=100000 ->
  Calls prog 35 #[.pointer (some ⟨g,0,none⟩),.string ⟨p.toArray⟩,v] w (ziV (out++zat n L p) v w0 w)
 | 0,p,D,out,v,w,hp,hn,hb,hv,aF=>by
  have hK:zk L p=[]:=by
   refine List.eq_nil_iff_forall_not_mem.2 fun c hc=>?_
   obtain ⟨_,_,_,h1,h2⟩:=zm6 hT hc
   omega
  have:=zm5 B g sv S L w0 h p (by have:=ziW hp;omega) (fun _=>[]) [] hK out v w hb hv (by simp;have:(zat 0 L p).length=0:=rfl;omega) Sm (fun i hi=>absurd hi Sm)
  exact this
 | n+1,p,D,out,v,w,hp,hn,hb,hv,aF=>by
  rw [zgu] at aF ⊢
  refine zm5 B g sv S L w0 h p (by have:=ziW hp;omega) (zat n L) (zk L p) rfl out v w hb hv aF (by have:=zgn L p;omega) (fun i hi o v w' co Bv B5=>?_)
  obtain ⟨r,D',hr,h1,h2⟩:=zm6 hT (List.getElem_mem hi)
  exact zm7 B g sv S L w0 h hT hl n _ _ o v w' hr Om co Bv B5
def zb7 (L:List Ent) (p:Bs):List (Bs):=if p=[] then L.map (·.1) else if zt L p=true then zcB L p else []
def zgy (xs:List (Bs)) (w:World) (en:Ending) (w':World):Prop:=∃ nv,en=.returned nv/\w'.ownsRow w.heap.size 9 1 nv xs.length (sc xs)/\Below w.heap.size w w'
theorem zm8 (L:List Ent) (p:Bs):(zcB L p).length<=L.length:=by
 unfold zcB
 have:=List.length_filter_le (fun s=>zbq s p) (L.map (·.1))
 simpa using this
theorem zm9 (B g:Nat) (sv:Value) (S:Nat->Prop) (L:List Ent) (p:Bs) (w:World) (h:zU w B g sv S L) (hT:TrL L) (hl:L.length<=1024) (hp:p.length<=140737488355328) :
  Calls prog 14 #[.pointer (some ⟨g,0,none⟩),.string ⟨p.toArray⟩] w (zgy (zb7 L p) w):=by
 have kN:=Hy (zgd B g sv S L p w h hp)
 have Hr:=Hy (fun D out v w' (hD:nrD p=some D) hb hv aF=>zm7 B g sv S L w h hT hl 32 p D out v w' hD Om hb hv aF)
 have HT:=Hy hT
 have HNil:=Hy (World.ownsRow_nil w w.heap.size 9 1)
 clear h hT
 by_cases oo:p=[]
 ·subst oo
  have hr:=zmS HT.o
  have sr:zb7 L []=[]++zat 32 L []:=by unfold zb7;rw [if_pos rfl,hr.2];rfl
  have kO:(zat 32 L []).length<=1024:=by rw [hr.2];simpa using hl
  have HW:=Hy (Hr.o [] [] (.slice none 0 0) w zfp (Br _) (World.ownsRow_nil _ _ _ _) So)
  rw [sr]
  clear sr kO hr kN Hr
  go_enter func14,ntmps14
  go_wp2_with fail
  refine HW.o.mono ?_
  rintro en w3 ⟨nv,rfl,h1,h2,h3,h4⟩
  obtain ⟨na,nc,rfl⟩:=zh h1
  obtain ⟨N,hN⟩:=Ex (([]++zat 32 L []).length)
  have H:=Hy (show w3.ownsRow w.heap.size 9 1 (.slice na ([]++zat 32 L []).length nc) ([]++zat 32 L []).length (sc ([]++zat 32 L []))/\Below w.heap.size w w3 from ⟨h1,h2⟩)
  have HN:=Hy hN
  rw [hN]
  clear h1 h2 h3 h4 hN
  go_wp2
  go_ret
  exact ⟨_,rfl,HN.o ▸ H.o.1,H.o.2⟩
 have Ey:p.isEmpty=false:=by simpa using oo
 obtain ⟨q,hq⟩:=Ex (zt L p)
 rw [hq] at kN
 have HQ:=Hy hq
 have HP:=Hy oo
 clear hq
 go_enter func14,ntmps14
 go_wp2_with fail
 refine kN.o.mono ?_
 rintro en w2 ⟨rfl,ak⟩
 have H2:=Hy ak
 clear ak
 cases q with
 | false =>
  go_wp2
  go_ret
  refine ⟨_,rfl,?_,H2.o⟩
  have:zb7 L p=[]:=by unfold zb7;rw [if_neg HP.o,if_neg (by rw [HQ.o];decide)]
  rw [this]
  exact World.ownsRow_nil _ _ _ _
 | true =>
  obtain ⟨e,he,Hs⟩:=zbr.1 HQ.o
  obtain ⟨r,D,hD⟩:=HT.o.nm e he
  rw [Hs] at hD
  have uA:=zmU HT.o he 32 Om
  rw [Hs] at uA
  have sr:zb7 L p=[p]++zat 32 L p:=by unfold zb7;rw [if_neg HP.o,if_pos HQ.o,uA];rfl
  have kO:(zat 32 L p).length<=1024:=by have:=zm8 L p;rw [uA] at this;simp at this;omega
  have HBC:=Hy sr
  clear uA he Hs sr
  go_wp2_with (at_builtin;refine zaM rfl (.tmp 14) (.tmp 16) 47 9 rfl w.heap.size 1 16 (.string ByteArray.empty) Tryz.dninfo9 underlying47 rfl De [.string ⟨p.toArray⟩] rfl ?c0 _ 0 [] rfl _ rfl ?c3 (World.ownsRow_nil _ _ _ _) ?c1 ?c2 H2.o.size ?_)
  case c0=>intro u hu;simp at hu;subst hu;rfl
  case c1=>unfold maxLen;omega
  case c2=>omega
  case c3=>rfl
  intro pv w4 g1 g2 g3
  obtain ⟨pa,pc,rfl⟩:=zh g1
  have bf:Below w.heap.size w w4:=H2.o.trans (g2.toBelow H2.o.size (fun k _ hk=>by simp [Value.ownBlock] at hk))
  have HW:=Hy (Hr.o _ [p] (.slice pa 1 pc) w4 hD bf g1 So)
  have H4:=Hy bf
  clear g1 g2 g3 bf hD kO
  go_wp2_with fail
  refine HW.o.mono ?_
  rintro en w3 ⟨nv,rfl,h1,h2,h3,h4⟩
  obtain ⟨na,nc,rfl⟩:=zh h1
  obtain ⟨N,hN⟩:=Ex (([p]++zat 32 L p).length)
  have H:=Hy (show w3.ownsRow w.heap.size 9 1 (.slice na ([p]++zat 32 L p).length nc) ([p]++zat 32 L p).length (sc ([p]++zat 32 L p))/\Below w.heap.size w w3 from ⟨h1,h2⟩)
  have HN:=Hy hN
  rw [hN]
  clear h1 h2 h3 h4 hN
  go_wp2
  go_ret
  refine ⟨_,rfl,?_,H.o.2⟩
  rw [HBC.o]
  exact HN.o ▸ H.o.1
theorem zna (B g:Nat) (sv:Value) (S:Nat->Prop) (L:List Ent) (w:World) (h:zU w B g sv S L) (hT:TrL L) (hl:L.length<=1024) :
  Calls prog 21 #[.pointer (some ⟨g,0,none⟩)] w (zgy (L.map (·.1)) w):=by
 have HB:=Hy (zm9 B g sv S L [] w h hT hl Sm)
 rw [show zb7 L []=L.map (·.1) by unfold zb7;rw [if_pos rfl]] at HB
 obtain ⟨X,hX⟩:=Ex (L.map (·.1))
 rw [hX] at HB ⊢
 clear h hT hX
 go_enter func21,ntmps21
 go_wp2_with fail
 refine HB.o.mono ?_
 rintro en w2 ⟨nv,rfl,h1,h2⟩
 obtain ⟨na,nc,rfl⟩:=zh h1
 obtain ⟨N,hN⟩:=Ex X.length
 have H:=Hy (An h1 h2)
 have HN:=Hy hN
 rw [hN]
 clear h1 h2 hN
 go_wp2
 go_ret
 exact ⟨_,rfl,HN.o ▸ H.o.1,H.o.2⟩
def zuT (K:List Av) (w:World) (en:Ending) (w':World):Prop :=
 ∃ a c,en=.returned (.slice a K.length c)/\w'.ownsRow w.heap.size 79 2 (.slice a K.length c) K.length (avc K)/\Below w.heap.size w w'
theorem zuU (w:World):(w.alloc (.cells #[] 79)).ownsRow w.heap.size 79 2 (.slice (some ⟨w.heap.size,0,none⟩) 0 0) 0 [] :=
 ⟨rfl,.inr ⟨w.heap.size,0,#[],rfl,Nat.le_refl _,heap_alloc_new w _,Nat.le_refl _,Nat.zero_le _,rfl,rfl⟩⟩
theorem zuV (K:List Av) (v:Value) (B:Nat) (w:World) (aA:w.ownsRow B 79 2 v K.length (avc K)) (h0:K≠[]) (hl:K.length<=1000000) :
  Calls prog 27 #[v] w (zuT K w):=by
 have hr:=zwd aA
 obtain ⟨ad,c,rfl⟩:∃ ad c,v=.slice (some ad) K.length c:=by
  rcases aA.2 with ⟨e,h1⟩ | ⟨g,cap,cur,e,_⟩
  ·exact absurd (List.eq_nil_of_length_eq_zero h1) h0
  exact ⟨_,_,e⟩
 have hq:∀ w:World,(binOp .eql 76 (.slice (some ad) K.length c) (.slice none 0 0)).run prog w=.ok (.bool false) w:=fun w=>by kernel_rfl
 have j9:zbl (w.alloc (.cells #[] 79)) 2 (.slice (some ad) K.length c) K.length (avc K):=zdt hr ((Br w).alloc Lr _)
 have HR:=Hy (An j9 (zuU w))
 obtain ⟨n1,de⟩:=Ex K.length
 have HN:=Hy de
 rw [de] at HR hl hq ⊢
 clear hr j9 de aA
 go_enter func27,ntmps27
 go_wp2_with (at_builtin;refine zaf rfl (.tmp 5) (.tmp 6) 76 79 rfl w.heap.size 2 32 _ Tryz.dtinfo underlying76 rfl De _ 0 [] rfl HR.o.2 _ n1 (avc K) rfl HR.o.1 (ztH K) Mx Om Sm ?_;intro v' w' h1 h2 h3)
 rw [Nat.zero_add] at h1
 obtain ⟨na,nc,rfl⟩:=zh h1
 have hc:Chg (fun k=>some k=(Value.slice (some ⟨w.heap.size,0,none⟩) 0 0).ownBlock) (w.alloc (.cells #[] 79)) w':=h2
 have hb:Below w.heap.size w w':=((Br w).alloc Lr _).trans (hc.toBelow Sm (fun k _ hk=>by injection hk with hk;have hk:k=w.heap.size:=hk;omega))
 clear h2 h3
 go_ret
 have hn:=HN.o
 subst hn
 exact ⟨na,nc,rfl,h1,hb⟩
theorem znb {D:DataW Value} {f:Bs->Option Value} (h:zdR D f) (hl:∀ s,(f s).isSome=true->s.length<=140737488355328) {x:Value} {kl:Lit} {y:DataW Value × List MemPlace} {c:Value}
  (dY:keyOf prog 9 x=some kl) (hv:iF c=some y) (eH:∀ zd,D.atKey kl zd=y.1):∃ s:Bs,kl=.string s/\x=.string ⟨s.toArray⟩/\f s=some c:=by
 have hh:=has_true_of_atKey eH
 obtain ⟨s,rfl⟩:=h.2.2 kl hh
 have hs:=h.1 s
 rw [hh] at hs
 refine ⟨s,rfl,z8.inj dY (zce s (hl s hs.symm)),?_⟩
 cases hq:f s with
 | none=>rw [hq] at hs;cases hs
 | some v =>
  have h1:=h.2.1 s v hq .nil
  have h2:=eH .nil
  have hy:((.held c,[]):DataW Value × List MemPlace)=y:=Option.some.inj hv
  rw [<- hy] at h2
  have h3:(DataW.held v:DataW Value)=.held c:=h1.symm.trans h2
  rw [zit h3]
def zuW (bd:Nat) (f:Bs->Option Value) (n:Nat) (w:World) (en:Ending) (w':World):Prop:=en=.returned (.tuple #[])/\zI w' bd f n/\Chg (fun k=>k=bd) w w'
theorem zuX (bd bs n:Nat) (f:Bs->Option Value) (w:World) (hd:zI w bd (fun _=>none) 0) (hs:zI w bs f n) (aH:bd≠bs) (hn:n<=1000000) (hl:∀ s,(f s).isSome=true->s.length<=140737488355328)
  (Mb:∀ s v,f s=some v->∃ (d:Bs) (a:Option Addr) (n c:Nat),v=.agg #[.string ⟨d.toArray⟩,.slice a n c]) :
  Calls prog 26 #[.map (some bd),.map (some bs)] w (zuW bd f n w):=by
 have aY:=zaS hd
 have wd:=zaS hs
 obtain ⟨Dd,ef,j8,qJ⟩:=hd
 obtain ⟨Ds,mP,l5,gO⟩:=hs
 have HD:=Hy (An ef (An j8 qJ))
 have HS:=Hy (An l5 gO)
 have HL:=Hy (An hl Mb)
 clear ef j8 qJ l5 gO hl Mb
 go_enter func26,ntmps26
 go_wp2_with (first
  | (at_range;refine wpList_range_own _ rfl _ 59 rfl 9 39 z8 underlying59 iF bs n _ rfl mP ?_;intro w0 oX wU ip)
  | go_in)
 go_frame
 have H0:=Hy (An oX wU)
 clear oX wU
 go_loopw [4] (fun _ wr=>∃ (left:Lit->Bool) (cnt:Nat) (Dout:DataW Value),wr.ranges prog 9 iF bs w.heap.size n Ds left cnt/\cnt<=Maps.size Ds /\
   wr.ownsMap prog 9 iF bd (Maps.size Ds - cnt) Dout/\Merged Dout Dd Ds left/\w.grownBy wr (some bd))
  (fun _ wr=>wr.rangeLeft bs w.heap.size)
 case atStart =>
  exact ⟨_,_,Dd,H0.o.1,Nat.le_refl _,(HD.o.1.kept H0.o.2 Sm).mono Om,merged_start Dd Ds,H0.o.2.but _⟩
 case round =>
  obtain ⟨left,cnt,Dout,oY,bQ,fQ,hM,mQ⟩:=hrel
  have H:=Hy (An bQ (An fQ (An hM mQ)))
  have qW:=Hy oY
  clear bQ fQ hM mQ
  go_wp2_with (first
   | (at_next;refine wpList_next_ranges _ rfl _ rfl 9 z8 iF id id (fun key _ _=>⟨key,rfl⟩) (fun v _ _=>⟨v,rfl⟩) bs w.heap.size n _ _ _ rfl oY ?_ ?_)
   | go_in)
  ·intro cF oh
   have H1:=Hy (An cF oh)
   clear cF oh oY
   go_wp2
   go_end0
   obtain ⟨bQ,fQ,hM,mQ⟩:=H.o
   obtain ⟨cF,oh⟩:=H1.o
   have Mc:∀ k,Maps.has Dd k=false:=fun k=>by
    cases hq:Maps.has Dd k with
    | false=>rfl
    | true =>
     obtain ⟨s,rfl⟩:=HD.o.2.1.2.2 k hq
     have:=HD.o.2.1.1 s
     rw [hq] at this;cases this
   have e:Dout=Ds:=by
    refine Maps.ext (fQ.canon z8) (qW.o.owns.canon z8) (fun k=>?_) (fun k z hk=>?_)
    ·rw [hM.1 k,oh k,Mc k];simp
    have h2:Maps.has Ds k=true:=by
     have h1:=hM.1 k
     rw [hk,oh k,Mc k] at h1
     simpa using h1.symm
    rw [hM.2 k z,if_pos (by rw [oh k,h2];rfl)]
   subst e
   refine ⟨rfl,⟨_,?_,HS.o.1,HS.o.2⟩,(Chg.ofGrown mQ).mono (fun k _ e=>by injection e with e)⟩
   subst cF
   rw [<- HS.o.2];simpa using fQ
  intro x c kl yd yp w1 cnt1 dY Ht hv eH oZ aj bI B7 eL
  have dY:keyOf prog 9 x=some kl:=dY
  have hv:iF c=some (yd,yp):=hv
  obtain ⟨s,rfl,rfl,fD⟩:=znb HS.o.1 HL.o.1 dY hv eH
  obtain ⟨d,va,vn,vc,rfl⟩:=HL.o.2 s c fD
  obtain ⟨bQ,fQ,hM,mQ⟩:=H.o
  have st:=fQ.kept bI (fun e=>by have:=Option.some.inj e;omega)
  have eO:Below w1.heap.size w1 (w1.alloc (.cells #[.string ⟨d.toArray⟩,.slice va vn vc] 39)):=(Br _).alloc Lr _
  have eV:keyOf prog 9 (.string ⟨s.toArray⟩)=some (.string s):=dY
  have Bv:iF (.agg #[.string ⟨d.toArray⟩,.slice va vn vc])=some (.held (.agg #[.string ⟨d.toArray⟩,.slice va vn vc]),[]):=rfl
  have hy:((.held (.agg #[.string ⟨d.toArray⟩,.slice va vn vc]),[]):DataW Value × List MemPlace)=(yd,yp):=Option.some.inj hv
  obtain ⟨rfl,rfl⟩:=Prod.mk.inj hy
  have Hu:(Instr.entry (.pointer (some ⟨w.heap.size,0,none⟩))).run prog w1=.ok (.tuple #[.string ⟨s.toArray⟩,.agg #[.string ⟨d.toArray⟩,.slice va vn vc]]) w1:=eL
  have lq:=st.alloc (.cells #[.string ⟨d.toArray⟩,.slice va vn vc] 39)
  have qX:=oZ.alloc (.cells #[.string ⟨d.toArray⟩,.slice va vn vc] 39)
  have cf:=World.grownBy_alloc w1 (.cells #[.string ⟨d.toArray⟩,.slice va vn vc] 39) none
  have f9:=(H.o.1)
  have fs:Maps.size Ds<=1000000:=by rw [HS.o.2];exact hn
  have HX:=Hy (An lq (An qX (An cf (An hM (An mQ (An eH (An bI aj)))))))
  have HK:=Hy eV
  clear st dY hv Bv eL fQ hM mQ oZ eH lq qX cf eO bI eV
  go_wp2_with (first
   | (at_mapUpdate;refine wpList_mapUpdate_own _ rfl _ _ _ 59 rfl 9 39 z8 underlying59 iF bd _ _ rfl HX.o.1 Mx _ _ _ rfl rfl HK.o _ _ rfl ?_;intro w2 B8 fq;go_frame)
   | go_in)
  obtain ⟨lq,qX,cf,hM,mQ,eH,bI,aj⟩:=HX.o
  have B9:=qX.kept fq (fun e=>aH (Option.some.inj e).symm) (fun e=>by have:=Option.some.inj e;omega)
  go_roundw
  case rel =>
   exact ⟨_,cnt1,_,B9,by omega,B8.mono Om,merged_step hM (lq.isMap) (z8.key HK.o) eH,((mQ.andThen bI (fun j hj=>.inl (by cases hj;exact Nat.le_refl _))).andThen cf (fun j hj=>by cases hj)).andThen fq (fun j hj=>.inr hj)⟩
  case measure=>rw [B9.left_eq,qW.o.left_eq];exact aj
theorem ziX (h:Chg S w w') {p:Addr} (hg:p.block<w.heap.size) (hS:¬ S p.block):w'.cell? p=w.cell? p:=ziU h hg hS
theorem znc {b r n cnt:Nat} {D:DataW Value} {left:Lit->Bool} (h:w.ranges prog 9 iF b r n D left cnt) (hc:Chg S w w') (hb:¬ S b) (hr:¬ S r):w'.ranges prog 9 iF b r n D left cnt:=by
 have h1:=h.owns.lt
 have h2:=h.lt
 obtain ⟨es,clock,since,seen,c0,co,F,hs,hD,qY,rest⟩:=h
 exact ⟨es,clock,since,seen,c0,(hc.block b h1 hb).trans co,F,hs,hD,(hc.block r h2 hr).trans qY,rest⟩
def znd (sv:Value) (L:List Ent) (w:World) (en:Ending) (w':World):Prop :=
 ∃ g S,en=.returned (.pointer (some ⟨g,0,none⟩))/\zU w' w.heap.size g sv S L/\(∀ k,S k->w.heap.size<=k)/\w.heap.size<=g/\Below w.heap.size w w'
def CpK (wr:World) (B:Nat) (KF:Bs->List Av) (f5:Bs->Option Value):Prop :=
 ∀ s v,f5 s=some v->wr.ownsRow B 79 2 v (KF s).length (avc (KF s))/\∀ t u,s≠t->f5 t=some u->zaq v u
theorem zuY {w7:World} {B:Nat} {KF:Bs->List Av} {s:Bs} (h:CpK w B KF f5) {S:Nat->Prop} (hc:Chg S w w7) (hs:∀ k,S k->∃ es c,w.heap[k]?=some (.map es c)) (hv:w7.ownsRow w.heap.size 79 2 v (KF s).length (avc (KF s))) (hB:B<=w.heap.size) :
  CpK w7 B KF (upF f5 s (some v)):=by
 have keep:∀ t u,f5 t=some u->w7.ownsRow B 79 2 u (KF t).length (avc (KF t)):=fun t u hu=>zz (h t u hu).1 hc (fun k hk hS=>by
  obtain ⟨es,c,hm⟩:=hs k hS
  rcases (h t u hu).1.2 with ⟨e,_⟩ | ⟨g',cap,cur,e,_,cO,_⟩
  ·rw [e] at hk;simp [Value.ownBlock] at hk
  rw [e] at hk
  simp [Value.ownBlock] at hk
  subst hk
  rw [hm] at cO;cases cO)
 have ap:∀ t u,f5 t=some u->zaq v u:=fun t u hu k h1 h2=>by
  have:=(hv.lt k h1).1
  have:=((h t u hu).1.lt k h2).2
  omega
 intro t u hu
 unfold upF at hu
 by_cases fh:t=s
 ·rw [if_pos fh] at hu
  injection hu with hu
  subst hu fh
  refine ⟨zaK hv hB,fun t' u' aH kb=>?_⟩
  unfold upF at kb
  rw [if_neg (Ne.symm aH)] at kb
  exact ap t' u' kb
 rw [if_neg fh] at hu
 refine ⟨keep t u hu,fun t' u' aH kb=>?_⟩
 unfold upF at kb
 by_cases Ca:t'=s
 ·rw [if_pos Ca] at kb
  injection kb with kb
  subst kb
  exact (ap t u hu).symm
 rw [if_neg Ca] at kb
 exact (h t u hu).2 t' u' aH kb
theorem zuZ {wr:World} {g2 e2 b2 n5:Nat} {sv:Value} {fe:Bs->Option Value} {F:Bs->Value} (cf:wr.heap[g2]?=some (.cells #[sv,.map (some e2),.map (some b2)] 62 (0,0))) (hb:w.heap.size<=e2/\w.heap.size<=b2/\e2≠b2/\w.heap.size<=g2) (ie:Below w.heap.size w wr)
  (kB:zI wr e2 fe L.length) (h2:zcx w fe L) (mR:zI wr b2 f5 n5) (qe:∀ s,(f5 s).isSome=(zS (zk L) F s).isSome) (hk:CpK wr w.heap.size (zk L) f5) :
  znd sv L w (.returned (.pointer (some ⟨g2,0,none⟩))) wr:=by
 have h0:∀ p,zk L p=[]->f5 p=none:=fun p hp=>by
  have:=qe p
  unfold zS at this
  rw [if_pos hp] at this
  cases hq:f5 p with
  | none=>rfl
  | some v=>rw [hq] at this;cases this
 have h1:∀ p,zk L p≠[]->∃ v,f5 p=some v:=fun p hp=>by
  have:=qe p
  unfold zS at this
  rw [if_neg hp] at this
  cases hq:f5 p with
  | none=>rw [hq] at this;cases this
  | some v=>exact ⟨v,rfl⟩
 obtain ⟨G,hG⟩:∃ G:Bs->Value,∀ p,G p=(f5 p).getD (.slice none 0 0):=⟨_,fun _=>rfl⟩
 have hkf:zS (zk L) G=f5:=by
  funext p
  unfold zS
  by_cases hp:zk L p=[]
  ·rw [if_pos hp,h0 p hp]
  obtain ⟨v,hv⟩:=h1 p hp
  rw [if_neg hp,hG,hv];rfl
 have ia:∀ p q,p≠q->zaq (G p) (G q):=fun p q ir k e1 e2=>by
  rw [hG] at e1 e2
  cases gj:f5 p with
  | none=>rw [gj] at e1;simp [Value.ownBlock] at e1
  | some v =>
   cases dG:f5 q with
   | none=>rw [dG] at e2;simp [Value.ownBlock] at e2
   | some u =>
    rw [gj] at e1
    rw [dG] at e2
    exact (hk p v gj).2 q u ir dG k e1 e2
 have hT:zU wr w.heap.size g2 sv (trS e2 b2 G) L:=by
  refine ⟨e2,b2,fe,_,n5,rfl,cf,⟨hb.1,hb.2.1,hb.2.2.1,ie.size⟩,kB,?_,by rw [hkf];exact mR,fun p=>⟨fun hp=>by rw [hG,h0 p hp];rfl,?_,fun q hq=>ia p q hq⟩⟩
  ·intro s
   refine ⟨(h2 s).1,fun e he=>?_⟩
   obtain ⟨v,q1,q2⟩:=(h2 s).2 e he
   exact ⟨v,q1,zcn q2 ie⟩
  rw [hG]
  by_cases hp:zk L p=[]
  ·rw [h0 p hp,hp]
   exact World.ownsRow_nil _ _ _ _
  obtain ⟨v,hv⟩:=h1 p hp
  rw [hv]
  exact (hk p v hv).1
 exact ⟨g2,_,rfl,hT,fun k hk=>(zap hT k hk).2.1,hb.2.2.2,ie⟩
theorem zu0 {A:List Atr} (h:zC w v A):∃ a n c,v=.slice a n c:=by
 obtain ⟨Lq,B,_,h3⟩:=h
 obtain ⟨a,c,e⟩:=zh h3
 exact ⟨a,_,c,e⟩
theorem zne (B g:Nat) (sp:Option Addr) (S:Nat->Prop) (L:List Ent) (w:World) (h:zU w B g (.pointer sp) S L) (hT:TrL L) (hl:L.length<=1024) :
  Calls prog 10 #[.pointer (some ⟨g,0,none⟩)] w (znd (.pointer sp) L w):=by
 obtain ⟨eb,bb,fe,F,nb,hS,hg,⟨gR,gb,aH,je⟩,h1,h2,h3,h4⟩:=h
 have zg:=zi hg
 have zeb:=zaS h1
 have zbb:=zaS h3
 have mM:=zgp h3
 have EE:=Hy (zgf sp w)
 obtain ⟨c0,c1,c2⟩:=ze hg
 have HG:=Hy hg
 have dX:=Hy (An h1 (An h2 (An h3 h4)))
 have HT:=Hy hT
 clear hg h1 h2 h3 h4 hT hS gR gb je
 go_enter func10,ntmps10
 go_wp2_with fail
 refine EE.o.mono ?_
 rintro en w2 ⟨g2,S2,rfl,lf,j3,cf,ak,hmp⟩
 obtain ⟨e2,b2,fe2,F2,nb2,rfl,iH,⟨gR,gb,jH,je⟩,k1,k2,k3,k4⟩:=lf
 have Cb:fe2=fun _=>none:=by
  funext s
  exact (k2 s).1 rfl
 have Cc:zS (zk []) F2=fun _=>none:=by
  funext s
  unfold zS
  exact if_pos rfl
 have jL:nb2=0:=by have:=zgp k3;simpa using this
 rw [Cb] at k1
 rw [Cc,jL] at k3
 have HN:=Hy (An iH (An (An gR (An gb (An jH cf))) (An (show ¬ g2=e2 from fun e=>by obtain ⟨es,c,hm⟩:=zaY k1;rw [e,hm] at iH;cases iH) (An (show ¬ g=e2 by omega) (An (show ¬ g2=b2 from fun e=>by obtain ⟨es,c,hm⟩:=zaY k3;rw [e,hm] at iH;cases iH) (An ak (An k1 k3)))))))
 have qL:=zi iH
 obtain ⟨a0,a1,_⟩:=ze iH
 obtain ⟨b0,b1,_⟩:=ze (zj HG.o ak zg)
 have zgo:=zg
 have zg:=Nat.lt_of_lt_of_le zg ak.size
 have HMc:=Hy (fun w' (hb:Below w2.heap.size w2 w')=>zuX e2 eb L.length fe w' (za6 k1 (hb.block e2 (zaS k1))) (za6 dX.o.1 ((ak.trans (hb.mono ak.size)).block eb zeb)) Om Om (fun s hs=>by
   rw [zep dX.o.2.1] at hs
   obtain ⟨x,hx,rfl⟩:=zbr.1 hs
   obtain ⟨D,hD⟩:=zbP (HT.o.nm x hx)
   have:=zaA hD
   rw [this.1];have:=this.2.2.2;omega) (fun s v hv=>by
   have hs:(fe s).isSome=true:=by rw [hv];rfl
   rw [zep dX.o.2.1,<- ziQ] at hs
   obtain ⟨e,he⟩:=Option.isSome_iff_exists.1 hs
   obtain ⟨u,q1,q2⟩:=(dX.o.2.1 s).2 e he
   obtain ⟨a,n,c,rfl⟩:=zu0 q2
   rw [hv] at q1
   injection q1 with q1
   exact ⟨_,a,n,c,q1⟩))
 clear j3 cf ak hmp iH gR gb je jH k1 k2 k3 k4 Cb Cc jL c0 c1 c2 a0 b0
 go_wp2
 refine wp_region_noPanic ?_
 refine wp_region_held_drew (S:=fun w'=>w'.cell? ⟨g2,1,none⟩=some (.map (some e2))/\w'.cell? ⟨g,1,none⟩=some (.map (some eb))) Kr ?_ (fun aI=>?_)
 ·exact ⟨a1,b1⟩
 refine wpAnyH_take (i:=0) (v:=?vu0) rfl Kr Kr Kr Fh (Or.inl ⟨by rfl,?yu0⟩) As ?ru0
 case yu0=>(intro w' ar;(try dsimp only at ar);go_simp;with_reducible rfl)
 try simp only [Sg,Act.put,Ss]
 refine wpAnyH_take (i:=1) (v:=?vu1) rfl Kr Kr Kr Fh (Or.inl ⟨by rfl,?yu1⟩) As ?ru1
 case yu1=>(intro w' ar;(try dsimp only at ar);go_simp;with_reducible rfl)
 try simp only [Sg,Act.put,Ss]
 refine wpAnyH_take (i:=2) (v:=?vu2) rfl Kr Kr Kr Fh (Or.inl ⟨by rfl,?yu2⟩) As ?ru2
 case yu2=>(intro w' ar;(try dsimp only at ar);go_simp;with_reducible rfl)
 try simp only [Sg,Act.put,Ss]
 refine wpAnyH_take (i:=3) (v:=?vu3) rfl Kr Kr Kr Fh (Or.inl ⟨by rfl,?yu3⟩) As ?ru3
 case yu3=>(intro w' ar;(try dsimp only at ar);go_simp;with_reducible rfl)
 try simp only [Sg,Act.put,Ss]
 refine wpAnyH_take (i:=4) (v:=?vu4) rfl Kr Kr Kr Fh (Or.inl ⟨by rfl,?yu4⟩) As ?ru4
 case yu4=>(intro w' ar;(try dsimp only at ar);go_simp;with_reducible rfl)
 try simp only [Sg,Act.put,Ss]
 refine wpAnyH_take (i:=5) (v:=?vu5) rfl Kr Kr Kr Fh (Or.inl ⟨by rfl,?yu5⟩) As ?ru5
 case yu5=>(intro w' ar;(try dsimp only at ar);go_simp;with_reducible rfl)
 try simp only [Sg,Act.put,Ss]
 refine wpAnyH_take (i:=6) (v:=?vu6) rfl Kr Kr Kr Fh (Or.inl ⟨by rfl,?yu6⟩) As ?ru6
 case yu6=>(intro w' ar;(try dsimp only at ar);go_simp;with_reducible rfl)
 try simp only [Sg,Act.put,Ss]
 refine wpAnyH_take (i:=7) (v:=?vu7) rfl Kr Kr Kr Fh (Or.inl ⟨by rfl,?yu7⟩) As ?ru7
 case yu7=>(intro w' ar;(try dsimp only at ar);go_simp;with_reducible rfl)
 try simp only [Sg,Act.put,Ss]
 refine wpAnyH_ready (rs:=[8]) Kr Sm ?_
 refine AllReadyH.cons (o:=_) rfl (fun KR aM=>?cu8) ?nu8
 case nu8=>exact AllReadyH.nil
 go_simp
 go_at_call 26
 with_reducible refine (HMc.o _ (by first | exact (Br w2).drew | exact Below.refl _ w2)).mono ?_
 rintro en w4 ⟨rfl,ur,p8⟩
 have p8:Chg (fun k=>k=e2) w2 w4:=(by first | exact p8 | exact (Chg.ofBelow (Br w2).drew).trans p8 Fi)
 have a2:=(ziX p8 (p:=⟨g2,1,none⟩) qL HN.o.2.2.1).trans a1
 have Md:=(ziX p8 (p:=⟨g,1,none⟩) zg HN.o.2.2.2.1).trans b1
 have H4:=Hy (An ur p8)
 clear ur p8
 go_wp2_with fail
 refine aM.out _ _ ?_ (fun aI=>?_)
 ·exact ⟨a2,Md⟩
 clear aM KR
 try simp only [Sg,Act.put,Ss]
 refine wpAnyH_done Kr ?_ _
 refine NoPanic.normal ?_
 have jM:Below w.heap.size w w4:=HN.o.2.2.2.2.2.1.trans (H4.o.2.toBelow HN.o.2.2.2.2.2.1.size (fun k _ hk=>by have hk:k=e2:=hk;rw [hk];exact HN.o.2.1.1))
 obtain ⟨Ds,mP,l5,gO⟩:=za6 dX.o.2.2.1 (jM.block bb zbb)
 have Hv:=Hy (An l5 gO)
 have lZ:=Hy jM
 have b4:=(ze (zj HG.o jM zgo)).2.2
 have Hw:=Nat.lt_of_lt_of_le zbb jM.size
 clear l5 gO jM a1 b1 a2 Md
 go_wp2_with (first
  | (at_range;refine wpList_range_own _ rfl _ 60 rfl 9 76 z8 underlying60 iF bb nb _ rfl mP ?_;intro w0 oX wU ip)
  | go_in)
 go_frame
 have H0:=Hy (An oX wU)
 clear oX wU b4
 go_loopw [4,5] (fun _ _ wr=>∃ (left:Lit->Bool) (cnt:Nat) (f5:Bs->Option Value) (n5:Nat),wr.ranges prog 9 iF bb w4.heap.size nb Ds left cnt/\cnt<=Maps.size Ds /\
   zI wr b2 f5 n5/\n5+cnt<=Maps.size Ds/\(∀ s,(f5 s).isSome=((zS (zk L) F s).isSome && !left (.string s)))/\CpK wr w.heap.size (zk L) f5/\Chg (fun k=>k=b2\/k=w4.heap.size) w4 wr)
  (fun _ _ wr=>wr.rangeLeft bb w4.heap.size)
 case atStart =>
  refine ⟨_,_,_,0,H0.o.1,Nat.le_refl _,za6 HN.o.2.2.2.2.2.2.2 (((Chg.ofGrown H0.o.2).block b2 (Nat.lt_of_lt_of_le (zaS HN.o.2.2.2.2.2.2.2) H4.o.2.size) Sm).trans (H4.o.2.block b2 (zaS HN.o.2.2.2.2.2.2.2) (fun e=>HN.o.2.1.2.2.1 e.symm))),by omega,fun s=>?_,fun s v hv=>(by cases hv),(Chg.ofGrown H0.o.2).mono (fun k _ e=>by cases e)⟩
  have:=Hv.o.1.1 s
  rw [this]
  cases (zS (zk L) F s).isSome <;> rfl
 case round =>
  obtain ⟨left,cnt,f5,n5,oY,bQ,mR,uB,qe,qZ,mL⟩:=hrel
  have H:=Hy (An bQ (An mR (An uB (An qe (An qZ mL)))))
  have qW:=Hy oY
  clear bQ mR uB qe qZ mL
  go_wp2_with (first
   | (at_next;refine wpList_next_ranges _ rfl _ rfl 9 z8 iF id id (fun key _ _=>⟨key,rfl⟩) (fun v _ _=>⟨v,rfl⟩) bb w4.heap.size nb _ _ _ rfl oY ?_ ?_)
   | go_in)
  ·intro cF oh
   have H1:=Hy oh
   clear cF oh oY
   go_wp2
   go_ret
   obtain ⟨bQ,mR,uB,qe,qZ,mL⟩:=H.o
   have ie:Below w.heap.size w wr:=lZ.o.trans (mL.toBelow lZ.o.size (fun k _ hk=>by rcases hk with e | e;rw [e];exact HN.o.2.1.2.1;rw [e];exact lZ.o.size))
   have Cd:∀ k,k<w4.heap.size->k≠b2->wr.heap[k]? = w4.heap[k]? := fun k hk wV=>mL.block k hk (by rintro (e | e);exact wV e;omega)
   have Hx:g2<w4.heap.size:=Nat.lt_of_lt_of_le qL H4.o.2.size
   refine zuZ (e2:=e2) (b2:=b2) (F:=F) ((Cd g2 Hx HN.o.2.2.2.2.1).trans (zV HN.o.1 H4.o.2 HN.o.2.2.1)) HN.o.2.1 ie (za6 H4.o.1 (Cd e2 (zaS H4.o.1) HN.o.2.1.2.2.1)) dX.o.2.1 mR (fun s=>?_) qZ
   rw [qe s,H1.o];simp
  intro x c kl yd yp w5 cnt1 dY Ht hv eH oZ aj bI B7 eL
  have dY:keyOf prog 9 x=some kl:=dY
  have hv:iF c=some (yd,yp):=hv
  have wW:∀ s,(zS (zk L) F s).isSome=true->s.length<=140737488355328:=fun s hs=>by
   unfold zS at hs
   split at hs
   ·cases hs
   rename_i aH
   cases hq:zk L s with
   | nil=>exact absurd hq aH
   | cons c K =>
    obtain ⟨e,he,_,hp⟩:=zdU (show c∈zk L s by rw [hq];simp)
    obtain ⟨p2,l,q1,_,_,D,hD⟩:=zcA (HT.o.nm e he)
    rw [hp] at q1
    obtain ⟨rfl,_⟩:=Prod.mk.inj q1
    have:=zaA hD
    rw [this.1];have:=this.2.2.2;omega
  obtain ⟨s,rfl,rfl,fD⟩:=znb Hv.o.1 wW dY hv eH
  have l6:=wW s (by rw [fD];rfl)
  have Ce:zk L s≠[]/\F s=c:=by
   unfold zS at fD
   split at fD
   ·cases fD
   rename_i aH
   exact ⟨aH,Option.some.inj fD⟩
  obtain ⟨Ce,rfl⟩:=Ce
  have aA:=(dX.o.2.2.2 s).2.1
  obtain ⟨va,vc,lY⟩:=zh aA
  obtain ⟨bQ,mR,uB,qe,qZ,mL⟩:=H.o
  have wX:Chg (fun k=>k=w4.heap.size) wr w5:=(Chg.ofGrown bI).mono (fun k _ e=>Option.some.inj e)
  have q8:Chg (fun k=>k=b2\/k=w4.heap.size) w4 w5:=mL.trans wX (fun k _ e=>.inr e)
  have ie:Below w.heap.size w w5:=lZ.o.trans (q8.toBelow lZ.o.size (fun k _ hk=>by rcases hk with e | e;rw [e];exact HN.o.2.1.2.1;rw [e];exact lZ.o.size))
  have hb2z:b2<w4.heap.size:=Nat.lt_of_lt_of_le (zaS HN.o.2.2.2.2.2.2.2) H4.o.2.size
  have uC:¬ b2=w4.heap.size:=by omega
  have qE:=Hy (fun w' (hb:Below w5.heap.size w5 w')=>zuV (zk L s) (F s) B w' (zu aA (ie.trans (hb.mono ie.size))) Ce (by have:=zgn L s;omega))
  rw [lY] at hv qE
  have iJ:=qE
  clear qE
  have Cf:CpK w5 w.heap.size (zk L) f5:=fun t u hu=>⟨zz (qZ t u hu).1 wX (fun k hk e=>by
   have e:k=w4.heap.size:=e
   rcases (qZ t u hu).1.2 with ⟨e',_⟩ | ⟨g',cap,cur,e',_,cO,_⟩
   ·rw [e'] at hk;simp [Value.ownBlock] at hk
   rw [e'] at hk
   simp [Value.ownBlock] at hk
   subst hk
   obtain ⟨es,clock,since,seen,c0,_,_,_,_,hr,_⟩:=qW.o
   rw [<- e,cO] at hr;cases hr),(qZ t u hu).2⟩
  have Cg:=mL.size
  have H5:=Hy (An Cf (An (zcR mR wX uC) (An (show n5<=1024 by have:=Hv.o.2;have:=uB;omega) (An uB (An qe (An q8 ie))))))
  have q9:=Hy (An oZ (An aj (An Ht bQ)))
  have Hu:(Instr.entry (.pointer (some ⟨w4.heap.size,0,none⟩))).run prog w5=.ok (.tuple #[.string ⟨s.toArray⟩,.slice va (zk L s).length vc]) w5:=by rw [<- lY];exact eL
  have wY:w5.heap[g2]?=some (.cells #[.pointer sp,.map (some e2),.map (some b2)] 62 (0,0)):=by
   have Hx:g2<w4.heap.size:=Nat.lt_of_lt_of_le qL H4.o.2.size
   exact (q8.block g2 Hx (by rintro (e | e);exact HN.o.2.2.2.2.1 e;omega)).trans (zV HN.o.1 H4.o.2 HN.o.2.2.1)
  have k2:=(ze wY).2.2
  have zgr:=zi wY
  have HVA:=Hy (An lY Ce)
  clear bQ mR uB qe qZ mL wX q8 ie Cf oY oZ aj Ht dY hv eH bI eL wW fD Ce aA wY lY Cg B7
  go_wp2
  refine wp_region_noPanic ?_
  refine wp_region_held_drew (S:=fun w'=>w'.cell? ⟨g2,2,none⟩=some (.map (some b2))) Kr ?_ (fun aI=>?_)
  ·exact k2
  refine wpAnyH_take (i:=0) (v:=?vx0) rfl Kr Kr Kr Fh (Or.inl ⟨by rfl,?yx0⟩) As ?rx0
  case yx0=>(intro w' ar;(try dsimp only at ar);go_simp;with_reducible rfl)
  try simp only [Sg,Act.put,Ss]
  refine wpAnyH_take (i:=1) (v:=?vx1) rfl Kr Kr Kr Fh (Or.inl ⟨by rfl,?yx1⟩) As ?rx1
  case yx1=>(intro w' ar;(try dsimp only at ar);go_simp;with_reducible rfl)
  try simp only [Sg,Act.put,Ss]
  refine wpAnyH_take (i:=2) (v:=?vx2) rfl Kr Kr Kr Fh (Or.inl ⟨by rfl,?yx2⟩) As ?rx2
  case yx2=>(intro w' ar;(try dsimp only at ar);go_simp;with_reducible rfl)
  try simp only [Sg,Act.put,Ss]
  refine wpAnyH_take (i:=3) (v:=?vx3) rfl Kr Kr Kr Fh (Or.inl ⟨by rfl,?yx3⟩) As ?rx3
  case yx3=>(intro w' ar;(try dsimp only at ar);go_simp;with_reducible rfl)
  try simp only [Sg,Act.put,Ss]
  refine wpAnyH_take (i:=4) (v:=?vx4) rfl Kr Kr Kr Fh (Or.inl ⟨by rfl,?yx4⟩) As ?rx4
  case yx4=>(intro w' ar;(try dsimp only at ar);go_simp;with_reducible rfl)
  try simp only [Sg,Act.put,Ss]
  refine wpAnyH_take (i:=5) (v:=?vx5) rfl Kr Kr Kr Fh (Or.inl ⟨by rfl,?yx5⟩) As ?rx5
  case yx5=>(intro w' ar;(try dsimp only at ar);go_simp;with_reducible rfl)
  try simp only [Sg,Act.put,Ss]
  refine wpAnyH_ready (rs:=[6]) Kr Sm ?_
  refine AllReadyH.cons (o:=_) rfl (fun KR aM=>?cx6) ?nx6
  case nx6=>exact AllReadyH.nil
  go_simp
  go_at_call 27
  with_reducible refine (iJ.o _ (by first | exact (Br w5).drew | exact Below.refl _ w5)).mono ?_
  rintro en w6 ⟨na,nc,rfl,kK,az⟩
  have kK:w6.ownsRow w5.heap.size 79 2 (.slice na (zk L s).length nc) (zk L s).length (avc (zk L s)):=(by first | exact kK | exact zaK kK Lr)
  have az:Below w5.heap.size w5 w6:=(by first | exact (Br w5).drew.trans az | exact az)
  have k3:=(az.cell (p:=⟨g2,2,none⟩) zgr).trans k2
  have lp:=za6 H5.o.2.1 (az.block b2 (zaS H5.o.2.1))
  obtain ⟨N6,Hz⟩:=Ex ((zk L s).length)
  rw [Hz] at kK ⊢
  have Ia:=Hy Hz
  clear Hz
  have H6:=Hy (An kK (An az lp))
  clear kK az lp
  go_wp2_with fail
  refine aM.out _ _ ?_ (fun aI=>?_)
  ·exact k3
  clear aM KR
  try simp only [Sg,Act.put,Ss]
  refine wpAnyH_ready (rs:=[7]) Kr Sm ?_
  refine AllReadyH.cons (o:=_) rfl (fun KR aM=>?cx7) ?nx7
  case nx7=>exact AllReadyH.nil
  refine zfg rfl (.tmp 35) (.tmp 36) (.tmp 38) 60 76 rfl underlying60 b2 n5 f5 rfl H6.o.2.2 (by have:=H5.o.2.2.1;unfold maxLen;omega) s (.slice na N6 nc) rfl rfl l6 ?_
  intro w7 n7 eu eY dW
  have k4:=(ziX (zbi dW) (p:=⟨g2,2,none⟩) (Nat.lt_of_lt_of_le zgr H6.o.2.1.size) HN.o.2.2.2.2.1).trans k3
  have H7:=Hy (An eu (An eY dW))
  clear eu eY dW
  refine aM.out _ _ ?_ (fun aI=>?_)
  ·exact k4
  clear aM KR
  try simp only [Sg,Act.put,Ss]
  refine wpAnyH_done Kr ?_ _
  refine NoPanic.normal ?_
  go_wp2
  refine ⟨?_,?_⟩
  ·obtain ⟨q1,q2,q3,q4,q5,q6,q7⟩:=H5.o
   have qV:=zbi H7.o.2.2
   have uD:Chg (fun k=>k=b2) w5 w7:=(Chg.ofBelow H6.o.2.1).trans qV (fun _ _ e=>e)
   refine ⟨_,cnt1,_,n7,znc q9.o.1 uD (fun e=>by have e:bb=b2:=e;have:=HN.o.2.1.2.1;omega) (fun e=>uC e.symm),by have:=q9.o.2.2.2;have:=q9.o.2.1;omega,H7.o.1,?_,fun t=>?_,zuY q1 uD (fun k e=>by have e:k=b2:=e;rw [e];exact zaY q2) ?_ q7.size,q6.trans uD (fun _ _ e=>.inl e)⟩
   ·have:=H7.o.2.1
    unfold zdS at this
    have h9:=q9.o.2.1
    have h8:=q4
    split at this <;> omega
   ·unfold upF
    have hss:(Lit.string t).sameKey (.string s)=(t==s):=rfl
    rw [hss]
    by_cases fh:t=s
    ·subst fh
     have:(zS (zk L) F t).isSome=true:=by unfold zS;rw [if_neg HVA.o.2];rfl
     rw [if_pos rfl,this];simp
    have fO:(t==s)=false:=by simpa using fh
    rw [if_neg fh,q5 t,fO];simp
   have:=H6.o.1
   rw [<- Ia.o] at this
   exact zz (Ia.o ▸ H6.o.1) qV (fun k hk e=>by
    have e:k=b2:=e
    have:=(H6.o.1.lt k (Ia.o ▸ hk)).1
    have:=zaS q2
    omega)
  rw [(znc q9.o.1 ((Chg.ofBelow H6.o.2.1).trans (zbi H7.o.2.2) (fun _ _ e=>e)) (fun e=>by have e:bb=b2:=e;have:=HN.o.2.1.2.1;omega) (fun e=>uC e.symm)).left_eq,qW.o.left_eq];exact q9.o.2.1
end Go.Proofs.YtijglbolppkefaaGreatDoor
