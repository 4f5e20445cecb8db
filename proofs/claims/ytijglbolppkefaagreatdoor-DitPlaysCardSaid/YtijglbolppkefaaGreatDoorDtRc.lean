/- The document's tree: an entry. -/
import Derived.Test.YtijglbolppkefaaGreatDoorMDtRa
set_option linter.unusedVariables false
set_option linter.unusedSimpArgs false
set_option maxHeartbeats 25600000
set_option maxRecDepth 100000
namespace Go.Proofs.YtijglbolppkefaaGreatDoor
open Go.Proofs.Tryz
open Go Go.RowKit Go.Proofs.BerK Go.Proofs.MemK Go.Proofs.UtfK
theorem zm4 (e x:Ent) (acc:List Ent):puS e (acc,true) x=if x.1=e.1 then (acc,true) else (acc++[x],true):=by unfold puS;simp
theorem zuK (e x:Ent) (acc:List Ent) (h:x.1=e.1):puS e (acc,false) x=(acc++[e],true):=by unfold puS;simp [h]
theorem zuL (e x:Ent) (acc:List Ent) (h:¬ x.1=e.1) (hb:bfN e.1 x.1=true):puS e (acc,false) x=(acc++[e]++[x],true):=by unfold puS;simp [h,hb]
theorem zuM (e x:Ent) (acc:List Ent) (h:¬ x.1=e.1) (hb:bfN e.1 x.1=false):puS e (acc,false) x=(acc++[x],false):=by unfold puS;simp [h,hb]
def zuN (L:List Ent) (w:World) (en:Ending) (w':World):Prop:=∃ ov,en=.returned ov/\zN w' w.heap.size ov L/\Below w.heap.size w w'
theorem zuO (B:Nat) (lv av:Value) (L:List Ent) (nm:Bs) (A:List Atr) (w:World) (h:zN w B lv L) (hl:L.length<=100000) (hA:zC w av A) :
  Calls prog 89 #[lv,.agg #[.string ⟨nm.toArray⟩,av]] w (zuN (zF (nm,A) L) w):=by
 obtain ⟨a,c,rfl⟩:=za8 h
 obtain ⟨aa,an,ac,rfl⟩:=zjG hA
 obtain ⟨n,hn⟩:=Ex L.length
 have HN:=Hy hn
 rw [hn] at h hl ⊢
 have HE:=Hy h
 have oK:=Hy hA
 have HPF:=Hy (zmX (nm,A) L [])
 obtain ⟨W0,aN⟩:=Ex (w.alloc (.cells #[.string ⟨nm.toArray⟩,.slice aa an ac] 39))
 have aE:=Nb aN
 have y0:=Nw aN
 have HY:=Hy y0
 have HB:=Hy aE
 have HW:=Hy aN
 obtain ⟨bx,aD⟩:=Ex w.heap.size
 have jB:=Hy aD
 clear h hn hA aE y0 aN
 go_enter func89,ntmps89
 go_wp2_with fail
 rw [HW.o]
 try rw [aD]
 rw [aD] at HY
 clear aD
 go_loopw [5,6,7] (fun ov dv iv wr=>∃ (i:Nat) (d:Bool) (acc:List Ent),i<=n/\iv=.int .i64 (i:Nat)/\dv=.bool d/\Below W0.heap.size W0 wr/\EnP w wr W0.heap.size ov acc/\(L.take i).foldl (puS (nm,A)) ([],false)=(acc,d)/\acc.length<=2*i) (fun _ _ iv _=>n - (intOf iv).toNat)
 case atStart=>exact ⟨0,false,[],by omega,rfl,rfl,Br _,zoz w W0 W0.heap.size,rfl,by simp⟩
 case round =>
  obtain ⟨i,d,acc,hi,rfl,rfl,hb,eL,hf,dj⟩:=hrel
  obtain ⟨Lq,hq,ab⟩:=eL
  obtain ⟨oa,oc,rfl⟩:=zh ab
  have jx:=Ob HY.o hb
  obtain ⟨e0,e1⟩:=zf jx
  have zx:=zi jx
  obtain ⟨N,hN⟩:=Ex acc.length
  rw [hN] at ab dj ⊢
  have H:=Hy (An hb (An hq (An ab (An hN hf))))
  have ux:=Hy jx
  clear hq ab hN jx hf
  by_cases aj:i<n
  ·have bh:(i:Int)<(n:Int):=by omega
   have iS:i<L.length:=by rw [HN.o];exact aj
   have aq:=HB.o.trans (hb.mono HB.o.size)
   obtain ⟨g,v,rfl,hg,fZ,iX,cP⟩:=zfE HE.o i iS
   have k0:=(aq.cell (p:=⟨g,_,none⟩) hg).trans fZ
   have k1:=(aq.cell (p:=⟨g,_,none⟩) hg).trans iX
   have zg:=Nat.lt_of_lt_of_le hg aq.size
   obtain ⟨va,vn,vc,rfl⟩:=zjG cP
   have fD:(L.take (i+1)).foldl (puS (nm,A)) ([],false)=puS (nm,A) (acc,d) L[i]:=by
    rw [List.take_succ_eq_append_getElem iS,List.foldl_append,H.o.2.2.2.2];rfl
   obtain ⟨⟨x,Ax⟩,hx⟩:∃ e,L[i]=e:=⟨_,rfl⟩
   rw [hx] at k0 cP fD
   dsimp only at k0 cP
   have HP:=Hy (An cP fD)
   have HK:=Hy (An hg (An fZ (An iX aq)))
   clear hb aq fZ iX cP fD hg
   go_wp2
   cases d with
   | true =>
    refine wp_region_noPanic ?_
    refine wp_region_held_drew (S:=fun w'=>w'.cell? ⟨bx,0,none⟩=some (.string ⟨nm.toArray⟩)/\w'.cell? ⟨g,i*2,none⟩=some (.string ⟨x.toArray⟩)) Kr ?_ (fun aI=>?_)
    ·exact ⟨e0,k0⟩
    refine wpAnyH_take (i:=0) (v:=?vpa0) rfl Kr Kr Kr Fh (Or.inl ⟨by rfl,?ypa0⟩) As ?rpa0
    case ypa0=>(intro w' ar;(try dsimp only at ar);go_simp;with_reducible rfl)
    try simp only [Sg,Act.put,Ss]
    refine wpAnyH_take (i:=1) (v:=?vpa1) rfl Kr Kr Kr Fh (Or.inl ⟨by rfl,?ypa1⟩) As ?rpa1
    case ypa1=>(intro w' ar;(try dsimp only at ar);go_simp;with_reducible rfl)
    try simp only [Sg,Act.put,Ss]
    refine wpAnyH_take (i:=2) (v:=?vpa2) rfl Kr Kr Kr Fh (Or.inl ⟨by rfl,?ypa2⟩) As ?rpa2
    case ypa2=>(intro w' ar;(try dsimp only at ar);go_simp;with_reducible rfl)
    try simp only [Sg,Act.put,Ss]
    refine wpAnyH_take (i:=3) (v:=undef) rfl Kr Kr Kr Fh (Or.inr ⟨by rfl,rfl⟩) As ?_
    try simp only [Sg,Act.put,Ss]
    refine wpAnyH_take (i:=4) (v:=undef) rfl Kr Kr Kr Fh (Or.inr ⟨by rfl,rfl⟩) As ?_
    try simp only [Sg,Act.put,Ss]
    refine wpAnyH_take (i:=5) (v:=undef) rfl Kr Kr Kr Fh (Or.inr ⟨by rfl,rfl⟩) As ?_
    try simp only [Sg,Act.put,Ss]
    refine wpAnyH_take (i:=6) (v:=undef) rfl Kr Kr Kr Fh (Or.inr ⟨by rfl,rfl⟩) As ?_
    try simp only [Sg,Act.put,Ss]
    refine wpAnyH_take (i:=7) (v:=undef) rfl Kr Kr Kr Fh (Or.inr ⟨by rfl,rfl⟩) As ?_
    try simp only [Sg,Act.put,Ss]
    refine wpAnyH_take (i:=8) (v:=undef) rfl Kr Kr Kr Fh (Or.inr ⟨by rfl,rfl⟩) As ?_
    try simp only [Sg,Act.put,Ss]
    refine wpAnyH_take (i:=9) (v:=undef) rfl Kr Kr Kr Fh (Or.inr ⟨by rfl,rfl⟩) As ?_
    try simp only [Sg,Act.put,Ss]
    refine wpAnyH_take (i:=10) (v:=undef) rfl Kr Kr Kr Fh (Or.inr ⟨by rfl,rfl⟩) As ?_
    try simp only [Sg,Act.put,Ss]
    refine wpAnyH_take (i:=11) (v:=undef) rfl Kr Kr Kr Fh (Or.inr ⟨by rfl,rfl⟩) As ?_
    try simp only [Sg,Act.put,Ss]
    refine wpAnyH_take (i:=12) (v:=undef) rfl Kr Kr Kr Fh (Or.inr ⟨by rfl,rfl⟩) As ?_
    try simp only [Sg,Act.put,Ss]
    refine wpAnyH_take (i:=13) (v:=undef) rfl Kr Kr Kr Fh (Or.inr ⟨by rfl,rfl⟩) As ?_
    try simp only [Sg,Act.put,Ss]
    refine wpAnyH_take (i:=14) (v:=undef) rfl Kr Kr Kr Fh (Or.inr ⟨by rfl,rfl⟩) As ?_
    try simp only [Sg,Act.put,Ss]
    refine wpAnyH_take (i:=15) (v:=undef) rfl Kr Kr Kr Fh (Or.inr ⟨by rfl,rfl⟩) As ?_
    try simp only [Sg,Act.put,Ss]
    refine wpAnyH_take (i:=16) (v:=undef) rfl Kr Kr Kr Fh (Or.inr ⟨by rfl,rfl⟩) As ?_
    try simp only [Sg,Act.put,Ss]
    refine wpAnyH_take (i:=17) (v:=undef) rfl Kr Kr Kr Fh (Or.inr ⟨by rfl,rfl⟩) As ?_
    try simp only [Sg,Act.put,Ss]
    refine wpAnyH_take (i:=18) (v:=undef) rfl Kr Kr Kr Fh (Or.inr ⟨by rfl,rfl⟩) As ?_
    try simp only [Sg,Act.put,Ss]
    refine wpAnyH_take (i:=19) (v:=undef) rfl Kr Kr Kr Fh (Or.inr ⟨by rfl,rfl⟩) As ?_
    try simp only [Sg,Act.put,Ss]
    refine wpAnyH_take (i:=20) (v:=undef) rfl Kr Kr Kr Fh (Or.inr ⟨by rfl,rfl⟩) As ?_
    try simp only [Sg,Act.put,Ss]
    refine wpAnyH_take (i:=21) (v:=?vpa21) rfl Kr Kr Kr Fh (Or.inl ⟨by rfl,?ypa21⟩) As ?rpa21
    case ypa21=>(intro w' ar;(try dsimp only at ar);go_simp;with_reducible rfl)
    try simp only [Sg,Act.put,Ss]
    refine wpAnyH_done Kr ?_ _
    refine NoPanic.normal ?_
    clear k1
    obtain ⟨w8,uy⟩:=Ex wr.drew
    have bz:Below wr.heap.size wr w8:=by rw [<- uy];exact (Br wr).drew
    have H8:=Hy (An (H.o.1.trans (bz.mono H.o.1.size)) (zu H.o.2.2.1 bz))
    try rw [uy]
    clear bz uy e0 e1 k0
    obtain ⟨e0,e1⟩:=zf (Ob HY.o H8.o.1)
    have k0:=((HB.o.trans (H8.o.1.mono HB.o.size)).cell (p:=⟨g,_,none⟩) HK.o.1).trans HK.o.2.1
    by_cases lj:x=nm
    ·have uz:nm=x:=lj.symm
     subst uz
     have lV:(nm==nm)=true:=by simp
     go_wp2
     go_region
     go_wp2
     refine ⟨⟨i+1,true,acc,by omega,by go_num,rfl,H8.o.1.drew,⟨Lq,H.o.2.1,by rw [H.o.2.2.2.1];exact zu H8.o.2 (Br w8).drew⟩,?_,by have:=H.o.2.2.2.1;omega⟩,by simp [intOf];omega⟩
     rw [HP.o.2,zm4];simp
    have lV:(x==nm)=false:=by simpa using lj
    go_wp2
    go_region
    obtain ⟨W9,oU⟩:=Ex w8.drew
    have bv:Below w8.heap.size w8 W9:=by rw [<- oU];exact (Br w8).drew
    rw [oU]
    have iK:=H8.o.1.trans (bv.mono H8.o.1.size)
    obtain ⟨e0,e1⟩:=zf (Ob HY.o iK)
    have k0:=((HB.o.trans (iK.mono HB.o.size)).cell (p:=⟨g,_,none⟩) HK.o.1).trans HK.o.2.1
    have k1:=((HB.o.trans (iK.mono HB.o.size)).cell (p:=⟨g,_,none⟩) HK.o.1).trans HK.o.2.2.1
    have HZ:=Hy (An iK (zu H8.o.2 bv))
    clear bv iK oU
    go_wp2_with (at_builtin;refine zaM rfl (.tmp 48) (.tmp 53) 33 39 rfl W0.heap.size 2 40 _ Tryz.dtinfoE underlying33 rfl De [.string ⟨x.toArray⟩,.slice va vn vc] rfl ?c0 _ N (zm Lq) rfl _ rfl ?c3 HZ.o.2 ?c1 ?c2 HZ.o.1.size ?_)
    case c0=>first | (intro u hu;simp at hu;rcases hu with rfl | rfl <;> rfl) | exact ⟨rfl,rfl⟩
    case c1=>unfold maxLen;omega
    case c2=>omega
    case c3=>rfl
    intro nv fG g1 g2 g3
    obtain ⟨na,nc,rfl⟩:=zh g1
    have bp:Below W0.heap.size W0 fG:=HZ.o.1.trans (g2.toBelow HZ.o.1.size (fun k _ hk=>(HZ.o.2.lt k hk.symm).1))
    have g1:fG.ownsRow W0.heap.size 39 2 (.slice na (N+1) nc) (N+1) (zm (Lq++[(x,.slice va vn vc)])):=by rw [zaJ];exact g1
    have H2:=Hy (An g1 bp)
    clear g1 g2 g3 bp
    go_wp2
    refine ⟨⟨i+1,true,acc++[(x,Ax)],by omega,by go_num,rfl,H2.o.2,⟨Lq++[(x,.slice va vn vc)],zdZ (e:=(x,Ax)) H.o.2.1 HP.o.1,by rw [List.length_append,H.o.2.2.2.1];exact H2.o.1⟩,?_,by rw [List.length_append,H.o.2.2.2.1];simp;omega⟩,by simp [intOf];omega⟩
    rw [HP.o.2,zm4,if_neg lj]
   | false =>
    by_cases lj:x=nm
    ·have uz:nm=x:=lj.symm
     subst uz
     have lV:(nm==nm)=true:=by simp
     refine wp_region_noPanic ?_
     refine wp_region_held_drew (S:=fun w'=>w'.cell? ⟨bx,0,none⟩=some (.string ⟨nm.toArray⟩)/\w'.cell? ⟨g,i*2,none⟩=some (.string ⟨nm.toArray⟩)) Kr ?_ (fun aI=>?_)
     ·exact ⟨e0,k0⟩
     refine wpAnyH_take (i:=0) (v:=?vpb0) rfl Kr Kr Kr Fh (Or.inl ⟨by rfl,?ypb0⟩) As ?rpb0
     case ypb0=>(intro w' ar;(try dsimp only at ar);go_simp;with_reducible rfl)
     try simp only [Sg,Act.put,Ss]
     refine wpAnyH_take (i:=1) (v:=?vpb1) rfl Kr Kr Kr Fh (Or.inl ⟨by rfl,?ypb1⟩) As ?rpb1
     case ypb1=>(intro w' ar;(try dsimp only at ar);go_simp;with_reducible rfl)
     try simp only [Sg,Act.put,Ss]
     refine wpAnyH_take (i:=2) (v:=?vpb2) rfl Kr Kr Kr Fh (Or.inl ⟨by rfl,?ypb2⟩) As ?rpb2
     case ypb2=>(intro w' ar;(try dsimp only at ar);go_simp;with_reducible rfl)
     try simp only [Sg,Act.put,Ss]
     refine wpAnyH_take (i:=3) (v:=?vpb3) rfl Kr Kr Kr Fh (Or.inl ⟨by rfl,?ypb3⟩) As ?rpb3
     case ypb3=>(intro w' ar;(try dsimp only at ar);go_simp;with_reducible rfl)
     try simp only [Sg,Act.put,Ss]
     refine wpAnyH_take (i:=4) (v:=?vpb4) rfl Kr Kr Kr Fh (Or.inl ⟨by rfl,?ypb4⟩) As ?rpb4
     case ypb4=>(intro w' ar;(try dsimp only at ar);go_simp;with_reducible rfl)
     try simp only [Sg,Act.put,Ss]
     refine wpAnyH_take (i:=5) (v:=?vpb5) rfl Kr Kr Kr Fh (Or.inl ⟨by rfl,?ypb5⟩) As ?rpb5
     case ypb5=>(intro w' ar;(try dsimp only at ar);go_simp;with_reducible rfl)
     try simp only [Sg,Act.put,Ss]
     refine wpAnyH_take (i:=6) (v:=?vpb6) rfl Kr Kr Kr Fh (Or.inl ⟨by rfl,?ypb6⟩) As ?rpb6
     case ypb6=>(intro w' ar;(try dsimp only at ar);go_simp;with_reducible rfl)
     try simp only [Sg,Act.put,Ss]
     refine wpAnyH_take (i:=7) (v:=?vpb7) rfl Kr Kr Kr Fh (Or.inl ⟨by rfl,?ypb7⟩) As ?rpb7
     case ypb7=>(intro w' ar;(try dsimp only at ar);go_simp;with_reducible rfl)
     try simp only [Sg,Act.put,Ss]
     refine wpAnyH_take (i:=8) (v:=?vpb8) rfl Kr Kr Kr Fh (Or.inl ⟨by rfl,?ypb8⟩) As ?rpb8
     case ypb8=>(intro w' ar;(try dsimp only at ar);go_simp;with_reducible rfl)
     try simp only [Sg,Act.put,Ss]
     refine wpAnyH_take (i:=9) (v:=?vpb9) rfl Kr Kr Kr Fh (Or.inl ⟨by rfl,?ypb9⟩) As ?rpb9
     case ypb9=>(intro w' ar;(try dsimp only at ar);go_simp;with_reducible rfl)
     try simp only [Sg,Act.put,Ss]
     refine wpAnyH_take (i:=10) (v:=?vpb10) rfl Kr Kr Kr Fh (Or.inl ⟨by rfl,?ypb10⟩) As ?rpb10
     case ypb10=>(intro w' ar;(try dsimp only at ar);go_simp;with_reducible rfl)
     try simp only [Sg,Act.put,Ss]
     refine wpAnyH_take (i:=11) (v:=?vpb11) rfl Kr Kr Kr Fh (Or.inl ⟨by rfl,?ypb11⟩) As ?rpb11
     case ypb11=>(intro w' ar;(try dsimp only at ar);go_simp;with_reducible rfl)
     try simp only [Sg,Act.put,Ss]
     refine wpAnyH_take (i:=12) (v:=undef) rfl Kr Kr Kr Fh (Or.inr ⟨by rfl,rfl⟩) As ?_
     try simp only [Sg,Act.put,Ss]
     refine wpAnyH_take (i:=13) (v:=undef) rfl Kr Kr Kr Fh (Or.inr ⟨by rfl,rfl⟩) As ?_
     try simp only [Sg,Act.put,Ss]
     refine wpAnyH_take (i:=14) (v:=undef) rfl Kr Kr Kr Fh (Or.inr ⟨by rfl,rfl⟩) As ?_
     try simp only [Sg,Act.put,Ss]
     refine wpAnyH_take (i:=15) (v:=undef) rfl Kr Kr Kr Fh (Or.inr ⟨by rfl,rfl⟩) As ?_
     try simp only [Sg,Act.put,Ss]
     refine wpAnyH_take (i:=16) (v:=undef) rfl Kr Kr Kr Fh (Or.inr ⟨by rfl,rfl⟩) As ?_
     try simp only [Sg,Act.put,Ss]
     refine wpAnyH_take (i:=17) (v:=undef) rfl Kr Kr Kr Fh (Or.inr ⟨by rfl,rfl⟩) As ?_
     try simp only [Sg,Act.put,Ss]
     refine wpAnyH_take (i:=18) (v:=undef) rfl Kr Kr Kr Fh (Or.inr ⟨by rfl,rfl⟩) As ?_
     try simp only [Sg,Act.put,Ss]
     refine wpAnyH_take (i:=19) (v:=undef) rfl Kr Kr Kr Fh (Or.inr ⟨by rfl,rfl⟩) As ?_
     try simp only [Sg,Act.put,Ss]
     refine wpAnyH_take (i:=20) (v:=?vpb20) rfl Kr Kr Kr Fh (Or.inl ⟨by rfl,?ypb20⟩) As ?rpb20
     case ypb20=>(intro w' ar;(try dsimp only at ar);go_simp;with_reducible rfl)
     try simp only [Sg,Act.put,Ss]
     refine wpAnyH_take (i:=21) (v:=?vpb21) rfl Kr Kr Kr Fh (Or.inl ⟨by rfl,?ypb21⟩) As ?rpb21
     case ypb21=>(intro w' ar;(try dsimp only at ar);go_simp;with_reducible rfl)
     try simp only [Sg,Act.put,Ss]
     refine wpAnyH_done Kr ?_ _
     refine NoPanic.normal ?_
     clear k1
     obtain ⟨w8,uy⟩:=Ex wr.drew
     have bz:Below wr.heap.size wr w8:=by rw [<- uy];exact (Br wr).drew
     have H8:=Hy (An (H.o.1.trans (bz.mono H.o.1.size)) (zu H.o.2.2.1 bz))
     try rw [uy]
     clear bz uy e0 e1 k0
     obtain ⟨e0,e1⟩:=zf (Ob HY.o H8.o.1)
     go_wp2_with (at_builtin;refine zaM rfl (.tmp 36) (.tmp 38) 33 39 rfl W0.heap.size 2 40 _ Tryz.dtinfoE underlying33 rfl De [.string ⟨nm.toArray⟩,.slice aa an ac] rfl ?c0 _ N (zm Lq) rfl _ rfl ?c3 H8.o.2 ?c1 ?c2 H8.o.1.size ?_)
     case c0=>first | (intro u hu;simp at hu;rcases hu with rfl | rfl <;> rfl) | exact ⟨rfl,rfl⟩
     case c1=>unfold maxLen;omega
     case c2=>omega
     case c3=>rfl
     intro nv w7 g1 g2 g3
     obtain ⟨na,nc,rfl⟩:=zh g1
     have bp:Below W0.heap.size W0 w7:=H8.o.1.trans (g2.toBelow H8.o.1.size (fun k _ hk=>(H8.o.2.lt k hk.symm).1))
     have g1:w7.ownsRow W0.heap.size 39 2 (.slice na (N+1) nc) (N+1) (zm (Lq++[(nm,.slice aa an ac)])):=by rw [zaJ];exact g1
     have H7:=Hy (An g1 bp)
     clear g1 g2 g3 bp e0 e1
     obtain ⟨e0,e1⟩:=zf (Ob HY.o H7.o.2)
     have k0:=((HB.o.trans (H7.o.2.mono HB.o.size)).cell (p:=⟨g,_,none⟩) HK.o.1).trans HK.o.2.1
     go_wp2
     go_region
     go_wp2
     refine ⟨⟨i+1,true,acc++[(nm,A)],by omega,by go_num,rfl,H7.o.2.drew,⟨Lq++[(nm,.slice aa an ac)],zdZ (e:=(nm,A)) H.o.2.1 oK.o,by rw [List.length_append,H.o.2.2.2.1];exact zu H7.o.1 (Br w7).drew⟩,?_,by rw [List.length_append,H.o.2.2.2.1];simp;omega⟩,by simp [intOf];omega⟩
     rw [HP.o.2,zuK (nm,A) (nm,Ax) acc rfl]
    have lV:(x==nm)=false:=by simpa using lj
    have Ed:=Hy (fun w'=>zxh nm x w')
    obtain ⟨q,hq⟩:=Ex (bfN nm x)
    rw [hq] at Ed
    have HQ:=Hy hq
    clear hq
    refine wp_region_noPanic ?_
    refine wp_region_held_drew (S:=fun w'=>w'.cell? ⟨bx,0,none⟩=some (.string ⟨nm.toArray⟩)/\w'.cell? ⟨g,i*2,none⟩=some (.string ⟨x.toArray⟩)) Kr ?_ (fun aI=>?_)
    ·exact ⟨e0,k0⟩
    refine wpAnyH_take (i:=0) (v:=?vpc0) rfl Kr Kr Kr Fh (Or.inl ⟨by rfl,?ypc0⟩) As ?rpc0
    case ypc0=>(intro w' ar;(try dsimp only at ar);go_simp;with_reducible rfl)
    try simp only [Sg,Act.put,Ss]
    refine wpAnyH_take (i:=1) (v:=?vpc1) rfl Kr Kr Kr Fh (Or.inl ⟨by rfl,?ypc1⟩) As ?rpc1
    case ypc1=>(intro w' ar;(try dsimp only at ar);go_simp;with_reducible rfl)
    try simp only [Sg,Act.put,Ss]
    refine wpAnyH_take (i:=2) (v:=?vpc2) rfl Kr Kr Kr Fh (Or.inl ⟨by rfl,?ypc2⟩) As ?rpc2
    case ypc2=>(intro w' ar;(try dsimp only at ar);go_simp;with_reducible rfl)
    try simp only [Sg,Act.put,Ss]
    refine wpAnyH_take (i:=3) (v:=?vpc3) rfl Kr Kr Kr Fh (Or.inl ⟨by rfl,?ypc3⟩) As ?rpc3
    case ypc3=>(intro w' ar;(try dsimp only at ar);go_simp;with_reducible rfl)
    try simp only [Sg,Act.put,Ss]
    refine wpAnyH_take (i:=4) (v:=?vpc4) rfl Kr Kr Kr Fh (Or.inl ⟨by rfl,?ypc4⟩) As ?rpc4
    case ypc4=>(intro w' ar;(try dsimp only at ar);go_simp;with_reducible rfl)
    try simp only [Sg,Act.put,Ss]
    refine wpAnyH_take (i:=5) (v:=?vpc5) rfl Kr Kr Kr Fh (Or.inl ⟨by rfl,?ypc5⟩) As ?rpc5
    case ypc5=>(intro w' ar;(try dsimp only at ar);go_simp;with_reducible rfl)
    try simp only [Sg,Act.put,Ss]
    refine wpAnyH_take (i:=6) (v:=?vpc6) rfl Kr Kr Kr Fh (Or.inl ⟨by rfl,?ypc6⟩) As ?rpc6
    case ypc6=>(intro w' ar;(try dsimp only at ar);go_simp;with_reducible rfl)
    try simp only [Sg,Act.put,Ss]
    refine wpAnyH_take (i:=7) (v:=?vpc7) rfl Kr Kr Kr Fh (Or.inl ⟨by rfl,?ypc7⟩) As ?rpc7
    case ypc7=>(intro w' ar;(try dsimp only at ar);go_simp;with_reducible rfl)
    try simp only [Sg,Act.put,Ss]
    refine wpAnyH_take (i:=8) (v:=?vpc8) rfl Kr Kr Kr Fh (Or.inl ⟨by rfl,?ypc8⟩) As ?rpc8
    case ypc8=>(intro w' ar;(try dsimp only at ar);go_simp;with_reducible rfl)
    try simp only [Sg,Act.put,Ss]
    refine wpAnyH_take (i:=9) (v:=?vpc9) rfl Kr Kr Kr Fh (Or.inl ⟨by rfl,?ypc9⟩) As ?rpc9
    case ypc9=>(intro w' ar;(try dsimp only at ar);go_simp;with_reducible rfl)
    try simp only [Sg,Act.put,Ss]
    refine wpAnyH_take (i:=10) (v:=?vpc10) rfl Kr Kr Kr Fh (Or.inl ⟨by rfl,?ypc10⟩) As ?rpc10
    case ypc10=>(intro w' ar;(try dsimp only at ar);go_simp;with_reducible rfl)
    try simp only [Sg,Act.put,Ss]
    refine wpAnyH_take (i:=11) (v:=?vpc11) rfl Kr Kr Kr Fh (Or.inl ⟨by rfl,?ypc11⟩) As ?rpc11
    case ypc11=>(intro w' ar;(try dsimp only at ar);go_simp;with_reducible rfl)
    try simp only [Sg,Act.put,Ss]
    refine wpAnyH_take (i:=12) (v:=?vpc12) rfl Kr Kr Kr Fh (Or.inl ⟨by rfl,?ypc12⟩) As ?rpc12
    case ypc12=>(intro w' ar;(try dsimp only at ar);go_simp;with_reducible rfl)
    try simp only [Sg,Act.put,Ss]
    refine wpAnyH_take (i:=13) (v:=?vpc13) rfl Kr Kr Kr Fh (Or.inl ⟨by rfl,?ypc13⟩) As ?rpc13
    case ypc13=>(intro w' ar;(try dsimp only at ar);go_simp;with_reducible rfl)
    try simp only [Sg,Act.put,Ss]
    refine wpAnyH_take (i:=14) (v:=?vpc14) rfl Kr Kr Kr Fh (Or.inl ⟨by rfl,?ypc14⟩) As ?rpc14
    case ypc14=>(intro w' ar;(try dsimp only at ar);go_simp;with_reducible rfl)
    try simp only [Sg,Act.put,Ss]
    refine wpAnyH_take (i:=15) (v:=?vpc15) rfl Kr Kr Kr Fh (Or.inl ⟨by rfl,?ypc15⟩) As ?rpc15
    case ypc15=>(intro w' ar;(try dsimp only at ar);go_simp;with_reducible rfl)
    try simp only [Sg,Act.put,Ss]
    refine wpAnyH_take (i:=16) (v:=?vpc16) rfl Kr Kr Kr Fh (Or.inl ⟨by rfl,?ypc16⟩) As ?rpc16
    case ypc16=>(intro w' ar;(try dsimp only at ar);go_simp;with_reducible rfl)
    try simp only [Sg,Act.put,Ss]
    refine wpAnyH_take (i:=17) (v:=?vpc17) rfl Kr Kr Kr Fh (Or.inl ⟨by rfl,?ypc17⟩) As ?rpc17
    case ypc17=>(intro w' ar;(try dsimp only at ar);go_simp;with_reducible rfl)
    try simp only [Sg,Act.put,Ss]
    refine wpAnyH_take (i:=18) (v:=?vpc18) rfl Kr Kr Kr Fh (Or.inl ⟨by rfl,?ypc18⟩) As ?rpc18
    case ypc18=>(intro w' ar;(try dsimp only at ar);go_simp;with_reducible rfl)
    try simp only [Sg,Act.put,Ss]
    refine wpAnyH_ready (rs:=[19]) Kr Sm ?_
    refine AllReadyH.cons (o:=_) rfl (fun KR aM=>?cpc19) ?npc19
    case npc19=>exact AllReadyH.nil
    go_simp
    go_at_call 126
    with_reducible refine (Ed.o _).mono ?_
    rintro en w6 ⟨rfl,az⟩
    have az:Below wr.heap.size wr w6:=(by first | exact (Br wr).drew.trans az | exact az)
    have L6:=(az.cell (p:=⟨bx,0,none⟩) zx).trans e0
    have L7:=(az.cell (p:=⟨g,i*2,none⟩) zg).trans k0
    have d9:=Hy az
    clear az
    go_wp2_with fail
    refine aM.out _ _ ?_ (fun aI=>?_)
    ·exact ⟨L6,L7⟩
    clear aM KR
    try simp only [Sg,Act.put,Ss]
    refine wpAnyH_take (i:=20) (v:=?vpc20) rfl Kr Kr Kr Fh (Or.inl ⟨by rfl,?ypc20⟩) As ?rpc20
    case ypc20=>(intro w' ar;(try dsimp only at ar);go_simp;with_reducible rfl)
    try simp only [Sg,Act.put,Ss]
    refine wpAnyH_take (i:=21) (v:=?vpc21) rfl Kr Kr Kr Fh (Or.inl ⟨by rfl,?ypc21⟩) As ?rpc21
    case ypc21=>(intro w' ar;(try dsimp only at ar);go_simp;with_reducible rfl)
    try simp only [Sg,Act.put,Ss]
    refine wpAnyH_done Kr ?_ _
    refine NoPanic.normal ?_
    clear k1
    have H8:=Hy (An (H.o.1.trans (d9.o.mono H.o.1.size)) (zu H.o.2.2.1 d9.o))
    clear e0 e1 k0 L6 L7
    obtain ⟨e0,e1⟩:=zf (Ob HY.o H8.o.1)
    have k0:=((HB.o.trans (H8.o.1.mono HB.o.size)).cell (p:=⟨g,_,none⟩) HK.o.1).trans HK.o.2.1
    cases q with
    | true =>
     go_wp2_with (at_builtin;refine zaM rfl (.tmp 36) (.tmp 38) 33 39 rfl W0.heap.size 2 40 _ Tryz.dtinfoE underlying33 rfl De [.string ⟨nm.toArray⟩,.slice aa an ac] rfl ?c0 _ N (zm Lq) rfl _ rfl ?c3 H8.o.2 ?c1 ?c2 H8.o.1.size ?_)
     case c0=>first | (intro u hu;simp at hu;rcases hu with rfl | rfl <;> rfl) | exact ⟨rfl,rfl⟩
     case c1=>unfold maxLen;omega
     case c2=>omega
     case c3=>rfl
     intro nv w7 g1 g2 g3
     obtain ⟨na,nc,rfl⟩:=zh g1
     have bp:Below W0.heap.size W0 w7:=H8.o.1.trans (g2.toBelow H8.o.1.size (fun k _ hk=>(H8.o.2.lt k hk.symm).1))
     have g1:w7.ownsRow W0.heap.size 39 2 (.slice na (N+1) nc) (N+1) (zm (Lq++[(nm,.slice aa an ac)])):=by rw [zaJ];exact g1
     obtain ⟨oV,BX⟩:=Ex (Lq++[(nm,Value.slice aa an ac)])
     obtain ⟨N2,Hk⟩:=Ex (N+1)
     rw [BX] at g1
     rw [Hk] at g1 ⊢
     have wq:=Hy (show (oV.length=(acc++[(nm,A)]).length/\∀ i (h1:i<oV.length) (h2:i<(acc++[(nm,A)]).length),oV[i].1=(acc++[(nm,A)])[i].1/\zC w oV[i].2 (acc++[(nm,A)])[i].2) from BX ▸ zdZ (e:=(nm,A)) H.o.2.1 oK.o)
     have BY:=Hy (show (acc++[(nm,A)]).length=N2 by rw [List.length_append,H.o.2.2.2.1];exact Hk)
     have hN2l:N2<=2*i+1:=by omega
     clear BX Hk
     have H7:=Hy (An g1 bp)
     clear g1 g2 g3 bp e0 e1 k0
     obtain ⟨e0,e1⟩:=zf (Ob HY.o H7.o.2)
     have k0:=((HB.o.trans (H7.o.2.mono HB.o.size)).cell (p:=⟨g,_,none⟩) HK.o.1).trans HK.o.2.1
     go_wp2
     go_region
     obtain ⟨W9,oU⟩:=Ex w7.drew
     have bv:Below w7.heap.size w7 W9:=by rw [<- oU];exact (Br w7).drew
     rw [oU]
     have iK:=H7.o.2.trans (bv.mono H7.o.2.size)
     obtain ⟨e0,e1⟩:=zf (Ob HY.o iK)
     have k0:=((HB.o.trans (iK.mono HB.o.size)).cell (p:=⟨g,_,none⟩) HK.o.1).trans HK.o.2.1
     have k1:=((HB.o.trans (iK.mono HB.o.size)).cell (p:=⟨g,_,none⟩) HK.o.1).trans HK.o.2.2.1
     have HZ:=Hy (An iK (zu H7.o.1 bv))
     clear bv iK oU
     go_wp2_with (at_builtin;refine zaM rfl (.tmp 48) (.tmp 53) 33 39 rfl W0.heap.size 2 40 _ Tryz.dtinfoE underlying33 rfl De [.string ⟨x.toArray⟩,.slice va vn vc] rfl ?c0 _ N2 (zm oV) rfl _ rfl ?c3 HZ.o.2 ?c1 ?c2 HZ.o.1.size ?_)
     case c0=>first | (intro u hu;simp at hu;rcases hu with rfl | rfl <;> rfl) | exact ⟨rfl,rfl⟩
     case c1=>unfold maxLen;omega
     case c2=>omega
     case c3=>rfl
     intro nv fG g1 g2 g3
     obtain ⟨na,nc,rfl⟩:=zh g1
     have bp:Below W0.heap.size W0 fG:=HZ.o.1.trans (g2.toBelow HZ.o.1.size (fun k _ hk=>(HZ.o.2.lt k hk.symm).1))
     have g1:fG.ownsRow W0.heap.size 39 2 (.slice na (N2+1) nc) (N2+1) (zm (oV++[(x,.slice va vn vc)])):=by rw [zaJ];exact g1
     have H2:=Hy (An g1 bp)
     clear g1 g2 g3 bp
     go_wp2
     refine ⟨⟨i+1,true,(acc++[(nm,A)])++[(x,Ax)],by omega,by go_num,rfl,H2.o.2,⟨oV++[(x,.slice va vn vc)],zdZ (e:=(x,Ax)) wq.o HP.o.1,by rw [List.length_append,BY.o];exact H2.o.1⟩,?_,by rw [List.length_append,BY.o];simp;omega⟩,by simp [intOf];omega⟩
     rw [HP.o.2,zuL _ _ _ lj HQ.o]
    | false =>
     go_wp2
     go_region
     obtain ⟨W9,oU⟩:=Ex w6.drew
     have bv:Below w6.heap.size w6 W9:=by rw [<- oU];exact (Br w6).drew
     rw [oU]
     have iK:=H8.o.1.trans (bv.mono H8.o.1.size)
     obtain ⟨e0,e1⟩:=zf (Ob HY.o iK)
     have k0:=((HB.o.trans (iK.mono HB.o.size)).cell (p:=⟨g,_,none⟩) HK.o.1).trans HK.o.2.1
     have k1:=((HB.o.trans (iK.mono HB.o.size)).cell (p:=⟨g,_,none⟩) HK.o.1).trans HK.o.2.2.1
     have HZ:=Hy (An iK (zu H8.o.2 bv))
     clear bv iK oU
     go_wp2_with (at_builtin;refine zaM rfl (.tmp 48) (.tmp 53) 33 39 rfl W0.heap.size 2 40 _ Tryz.dtinfoE underlying33 rfl De [.string ⟨x.toArray⟩,.slice va vn vc] rfl ?c0 _ N (zm Lq) rfl _ rfl ?c3 HZ.o.2 ?c1 ?c2 HZ.o.1.size ?_)
     case c0=>first | (intro u hu;simp at hu;rcases hu with rfl | rfl <;> rfl) | exact ⟨rfl,rfl⟩
     case c1=>unfold maxLen;omega
     case c2=>omega
     case c3=>rfl
     intro nv fG g1 g2 g3
     obtain ⟨na,nc,rfl⟩:=zh g1
     have bp:Below W0.heap.size W0 fG:=HZ.o.1.trans (g2.toBelow HZ.o.1.size (fun k _ hk=>(HZ.o.2.lt k hk.symm).1))
     have g1:fG.ownsRow W0.heap.size 39 2 (.slice na (N+1) nc) (N+1) (zm (Lq++[(x,.slice va vn vc)])):=by rw [zaJ];exact g1
     have H2:=Hy (An g1 bp)
     clear g1 g2 g3 bp
     go_wp2
     refine ⟨⟨i+1,false,acc++[(x,Ax)],by omega,by go_num,rfl,H2.o.2,⟨Lq++[(x,.slice va vn vc)],zdZ (e:=(x,Ax)) H.o.2.1 HP.o.1,by rw [List.length_append,H.o.2.2.2.1];exact H2.o.1⟩,?_,by rw [List.length_append,H.o.2.2.2.1];simp;omega⟩,by simp [intOf];omega⟩
     rw [HP.o.2,zuM _ _ _ lj HQ.o]
  obtain rfl:i=n:=by omega
  have HF:=Hy (show zF (nm,A) L=puF (nm,A) (acc,d) by
   have h1:=H.o.2.2.2.2
   rw [<- HN.o,List.take_length] at h1
   have h2:=HPF.o
   rw [h1] at h2
   simpa using h2.symm)
  have HBe:=Hy hb
  clear hb aj
  cases d with
  | true =>
   go_wp2
   go_ret
   have aq:=HB.o.trans (HBe.o.mono HB.o.size)
   refine ⟨_,rfl,?_,aq⟩
   rw [HF.o]
   refine zjF ⟨Lq,H.o.2.1,?_⟩ aq
   show wr.ownsRow _ _ _ _ acc.length _
   rw [H.o.2.2.2.1]
   exact zaK H.o.2.2.1 HB.o.size
  | false =>
   go_wp2_with (at_builtin;refine zaM rfl (.tmp 57) (.tmp 59) 33 39 rfl W0.heap.size 2 40 _ Tryz.dtinfoE underlying33 rfl De [.string ⟨nm.toArray⟩,.slice aa an ac] rfl ?c0 _ N (zm Lq) rfl _ rfl ?c3 H.o.2.2.1 ?c1 ?c2 H.o.1.size ?_)
   case c0=>first | (intro u hu;simp at hu;rcases hu with rfl | rfl <;> rfl) | exact ⟨rfl,rfl⟩
   case c1=>unfold maxLen;omega
   case c2=>omega
   case c3=>rfl
   intro nv w9 g1 g2 g3
   obtain ⟨na,nc,rfl⟩:=zh g1
   have bp:Below W0.heap.size W0 w9:=H.o.1.trans (g2.toBelow H.o.1.size (fun k _ hk=>(H.o.2.2.1.lt k hk.symm).1))
   have g1:w9.ownsRow W0.heap.size 39 2 (.slice na (N+1) nc) (N+1) (zm (Lq++[(nm,.slice aa an ac)])):=by rw [zaJ];exact g1
   have H2:=Hy (An g1 bp)
   clear g1 g2 g3 bp
   go_wp2
   go_ret
   have aq:=HB.o.trans (H2.o.2.mono HB.o.size)
   refine ⟨_,rfl,?_,aq⟩
   rw [HF.o]
   refine zjF ⟨Lq++[(nm,.slice aa an ac)],zdZ (e:=(nm,A)) H.o.2.1 oK.o,?_⟩ aq
   show w9.ownsRow _ _ _ _ (acc++[(nm,A)]).length _
   rw [List.length_append,H.o.2.2.2.1]
   exact zaK H2.o.1 HB.o.size
end Go.Proofs.YtijglbolppkefaaGreatDoor
