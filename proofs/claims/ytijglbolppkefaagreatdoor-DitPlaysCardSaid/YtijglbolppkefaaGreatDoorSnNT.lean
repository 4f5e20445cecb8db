/- The code's norms: the values of. -/
import Derived.Test.YtijglbolppkefaaGreatDoorSnAL
import Derived.Test.YtijglbolppkefaaGreatDoorMRuB
import Derived.Test.YtijglbolppkefaaGreatDoorScAD
set_option linter.unusedVariables false
set_option linter.unusedSimpArgs false
set_option maxHeartbeats 25600000
set_option maxRecDepth 100000
namespace Go.Proofs.YtijglbolppkefaaGreatDoor
open Go.Proofs.Tryz
open Go Go.RowKit Go.Proofs.BerK Go.Proofs.MemK Go.Proofs.UtfK
variable {w w' : World} {mv v : Value} {G : List (List (Bs))} {N S l vs : List (Bs)} {TL : List Ty} {A : List Atr} {B k own : Nat} {C L : List Cl} {s : Bs} {al : List Bool}
theorem zq8 {p:Prop} (h:p:=by
 cases bq
 ·have H:=Hy (HA.o rfl)
  go_wp2
  exact ⟨⟨k+1,by omega,by go_num,bY.o,H.o⟩,by simp [intOf];omega⟩
 have H:=Hy (jt.o rfl)
 go_wp2
 go_ret
 exact ⟨_,rfl,by rw [H.o];simp,bY.o⟩):p:=h
theorem zq9 {p:Prop} (h:p:=by
 obtain rfl:k=n:=by omega
 have H:=Hy (HN.o (fun j hj=>af j hj (by rw [<- HL.o];exact hj)))
 have HB:=Hy hb
 clear hb af
 go_wp2
 go_ret
 exact ⟨_,rfl,by rw [H.o];rfl,HB.o⟩):p:=h
theorem zra {p:Prop} (h:p:=by
 go_wp2
 refine ⟨⟨k+1,by omega,by go_num,?_,?_,HE.o.2.2⟩,by simp [intOf];omega⟩
 ·rw [HI.o.2.2.1];exact HE.o.1
 rw [HI.o.2.2.1];exact HE.o.2.1):p:=h
theorem zrb {p:Prop} (h:p:=by
 clear hb af aU DI vN DJ aX aJ bP fL hm
 go_wp2
 exact ⟨⟨k+1,by omega,by go_num,HB.o.2,H.o⟩,by simp [intOf];omega⟩):p:=h
theorem zrc {p:Prop} (h:p:=by
 go_wp2_with fail
 refine HC.o.mono ?_
 rintro en w1 ⟨n,rfl,hn,hb⟩
 have H:=Hy hn
 clear hn
 go_wp2
 go_ret
 exact zB H.o.symm hb):p:=h
theorem zrd {p:Prop} (h:p:=by
 have:=zH HJ.o.1 i (.bool true)
 rw [List.setIfInBounds_toArray,zrp] at this
 exact this):p:=h
def zcN (w:World) (v:Value) (G:List (List (Bs))):Prop :=
 ∃ a c,v=.slice a G.length c/\∀ i (hi:i<G.length),∃ g o vl,a=some ⟨g,o,none⟩/\g<w.heap.size/\w.cell? ⟨g,o+i,none⟩=some vl/\TxR w vl G[i]
theorem zre (h:zcN w v G) (hb:Below w.heap.size w w'):zcN w' v G:=by
 obtain ⟨a,c,rfl,h⟩:=h
 refine ⟨a,c,rfl,fun i hi=>?_⟩
 obtain ⟨g,o,vl,h1,h2,h3,h4⟩:=h i hi
 exact ⟨g,o,vl,h1,Nat.lt_of_lt_of_le h2 hb.size,(hb.cell (p:=⟨g,_,none⟩) h2).trans h3,zA h4 hb⟩
theorem zhY {S:Nat->Prop} (h:TxR w v l) (hc:Chg S w w') (hs:∀ g o n c,v=.slice (some ⟨g,o,none⟩) n c->¬ S g):TxR w' v l:=by
 obtain ⟨a,c,rfl,h⟩:=h
 refine ⟨a,c,rfl,fun i hi=>?_⟩
 obtain ⟨g,o,rfl,h2,h3⟩:=h i hi
 exact ⟨g,o,rfl,Nat.lt_of_lt_of_le h2 hc.size,(World.cell?_of_block (w:=w) (a:=⟨g,o+i,none⟩) (hc.block g h2 (hs g o _ _ rfl))).trans h3⟩
def nmV (t:Ty) (a:Atr):List (Bs):=a.2.map fun s=>(ruN t.2.1 s).1
def nmG (TL:List Ty) (A:List Atr):List (List (Bs)):=List.zipWith nmV TL A
def zbM (TL:List Ty) (A:List Atr):Bool:=(List.zipWith (fun t a=>a.2.all fun s=>(ruN t.2.1 s).2) TL A).all id
theorem zkE (k:Nat) (h1:k<TL.length) (h2:k<A.length) (j:Nat) (hj:j<A[k].2.length) (h:(ruN TL[k].2.1 A[k].2[j]).2=false):zbM TL A=false:=by
 unfold zbM
 rw [List.all_eq_false]
 refine ⟨(A[k].2.all fun s=>(ruN TL[k].2.1 s).2),?_,?_⟩
 ·rw [List.mem_iff_getElem]
  exact ⟨k,by simp;omega,by simp⟩
 simp only [id,Bool.not_eq_true]
 rw [List.all_eq_false]
 exact ⟨A[k].2[j],List.getElem_mem hj,by rw [h];simp⟩
theorem zrf (h:∀ k (h1:k<TL.length) (h2:k<A.length) j (hj:j<A[k].2.length),(ruN TL[k].2.1 A[k].2[j]).2=true):zbM TL A=true:=by
 unfold zbM
 rw [List.all_eq_true]
 intro x hx
 obtain ⟨k,hk,rfl⟩:=List.getElem_of_mem hx
 simp only [List.getElem_zipWith,id]
 rw [List.all_eq_true]
 intro s hs
 obtain ⟨j,hj,rfl⟩:=List.getElem_of_mem hs
 exact h k (by simp at hk;omega) (by simp at hk;omega) j hj
def zkF (TL:List Ty) (A:List Atr) (w:World) (en:Ending) (w':World):Prop :=
 (zbM TL A=false->en=.returned (.tuple #[.slice none 0 0,.bool false]))/\(zbM TL A=true->∃ v,en=.returned (.tuple #[v,.bool true])/\zcN w' v (nmG TL A))/\Below w.heap.size w w'
theorem zCk (h:zbM TL A=false) (hb:Below w.heap.size w w'):zkF TL A w (.returned (.tuple #[.slice none 0 0,.bool false])) w' :=
 ⟨fun _=>rfl,(fun h2=>by rw [h] at h2;cases h2),hb⟩
theorem zCl (h:zbM TL A=true) (ht:zcN w' v (nmG TL A)) (hb:Below w.heap.size w w'):zkF TL A w (.returned (.tuple #[v,.bool true])) w' :=
 ⟨(fun h2=>by rw [h] at h2;cases h2),fun _=>⟨v,rfl,ht⟩,hb⟩
theorem Tryz.sninfo47 : (prog.info? 47).map (fun i=>(i.zero,i.size,i.bytes))=some (some (.slice none 0 0),1,24):=by kernel_rfl
theorem zCm (n:Nat) (W:World) (hn:n<=1000000):(Instr.makeSlice 156 (.int .i64 (n:Int)) (.int .i64 (n:Int))).run prog W=.ok (.slice (some ⟨W.heap.size,0,none⟩) n n) (W.alloc (.cells (List.replicate n (Value.slice none 0 0)).toArray 47)):=by
 obtain ⟨i0,hi,bO,bi,ce⟩:=info_parts Tryz.sninfo47
 have h:=run_make (P:=prog) W 156 47 i0 (.slice none 0 0) underlying156 hi bO .i64 .i64 (n:Int) (n:Int) Om Om (by rw [ce];omega) Om
 have e:madeCells (Value.slice none 0 0).cells ((n:Int).toNat*i0.size)=(List.replicate n (Value.slice none 0 0)).toArray:=by
  apply Array.ext'
  rw [bi,show (n:Int).toNat*1=n by omega]
  exact (toList_madeCells_one _ n).trans Sm
 rw [e] at h
 simpa using h
def zfZ (w:World) (B:Nat) (vs:List Value) (G:List (List (Bs))) (k:Nat):Prop :=
 ∀ i (h1:i<vs.length) (h2:i<G.length),i<k->TxR w vs[i] G[i]/\∀ g o n c,vs[i]=.slice (some ⟨g,o,none⟩) n c->g≠B
theorem zCn {vs:List Value} (h:zfZ w B vs G k) (hc:Chg (fun j=>j=B) w w'):zfZ w' B vs G k:=fun i h1 h2 hi =>
 ⟨zhY (h i h1 h2 hi).1 hc (fun g o n c e=>(h i h1 h2 hi).2 g o n c e),(h i h1 h2 hi).2⟩
theorem zCo {vs:List Value} (h:zfZ w B vs G k) (hk:k<vs.length) (iC:k<G.length) (v:Value) (hv:TxR w v G[k]) (hb:∀ g o n c,v=.slice (some ⟨g,o,none⟩) n c->g≠B):zfZ w B (vs.set k v) G (k+1):=by
 intro i h1 h2 hi
 by_cases e:i=k
 ·subst e
  rw [List.getElem_set_self]
  exact ⟨hv,hb⟩
 rw [List.getElem_set_ne (fun h=>e h.symm)]
 exact h i (by simpa using h1) h2 Om
theorem zCp (TL:List Ty) (A:List Atr) (tv v:Value) (w:World) (hT:zL w tv TL) (hA:zaB w v A) (eF:TL.length=A.length) (hl:A.length<=1000000) (hv:∀ a∈A,a.2.length<=1000000) (he:zD w) :
  Calls prog 98 #[tv,v] w (zkF TL A w):=by
 obtain ⟨ta,tc,rfl,pH⟩:=hT
 obtain ⟨a,c,rfl,ae⟩:=hA
 have HT:=Hy pH
 have HM:=Hy ae
 have HV:=Hy hv
 have HE:=Hy he
 have gI:=Hy (zkE (TL:=TL) (A:=A))
 have pM:=Hy (zrf (TL:=TL) (A:=A))
 obtain ⟨n,hn⟩:=Ex A.length
 have qw:TL.length=n:=eF.trans hn
 have HL:=Hy (An hn qw)
 obtain ⟨G,hG⟩:=Ex (nmG TL A)
 have Fl:G.length=n:=by rw [<- hG];unfold nmG;simp;omega
 have HG:=Hy (An hG Fl)
 rw [hn] at hl ⊢
 rw [qw]
 have cC:=fun W=>zCm n W hl
 obtain ⟨M,hM⟩:=Ex ((List.replicate n (Value.slice none 0 0)).toArray)
 rw [hM] at cC
 obtain ⟨W1,aB⟩:=Ex (w.alloc (.cells M 47))
 have aE:=Nb aB
 have x0:W1.heap[w.heap.size]?=some (.cells (List.replicate n (Value.slice none 0 0)).toArray 47 (0,0)):=by rw [<- aB,hM];exact heap_alloc_new w _
 have HX:=Hy (An aE x0)
 have br:=Hy aB
 clear pH ae hv he hn qw hG Fl hM aB aE x0 eF
 go_enter func98,ntmps98
 go_wp2
 rw [br.o]
 clear cC
 go_loopw [18] (fun v wr=>∃ (k:Nat) (vs:List Value),k<=n/\v=.int .i64 (k:Nat)/\vs.length=n/\wr.heap[w.heap.size]?=some (.cells vs.toArray 47 (0,0))/\(∀ i (h:i<vs.length),k<=i->vs[i]=.slice none 0 0)/\zfZ wr w.heap.size vs G k/\Below w.heap.size w wr /\
   ∀ i (h1:i<TL.length) (h2:i<A.length) j (hj:j<A[i].2.length),i<k->(ruN TL[i].2.1 A[i].2[j]).2=true) (fun v _=>n - (intOf v).toNat)
 case atStart=>exact ⟨0,List.replicate n (.slice none 0 0),by omega,rfl,by simp,HX.o.2,fun i h _=>by simp,fun i h1 h2 h=>by omega,HX.o.1,fun i h1 h2 j hj h=>by omega⟩
 case round =>
  obtain ⟨k,vs,hk,rfl,dt,aG,kD,lK,hb,af⟩:=hrel
  obtain ⟨wo,rfl⟩:∃ wo,wo=wr:=⟨_,rfl⟩
  have cQ:=hb.size
  by_cases aj:k<n
  ·have bh:(k:Int)<(n:Int):=by omega
   have aO:k<A.length:=by rw [HL.o.1];exact aj
   have sS:k<TL.length:=by rw [HL.o.2];exact aj
   have hkG:k<G.length:=by rw [HG.o.2];exact aj
   have xL:k<vs.length:=by rw [dt];exact aj
   obtain ⟨g1,o1,vl,rfl,bI,aU,aP,JU⟩:=HM.o k aO
   obtain ⟨g2,o2,rfl,cf,DI,vN,DJ⟩:=HT.o k sS
   obtain ⟨va,vc,rfl,ju⟩:=JU
   have sO:=Hy ju
   have e0:=(hb.cell (p:=⟨g1,_,none⟩) bI).trans aU
   have e1:=(hb.cell (p:=⟨g1,_,none⟩) bI).trans aP
   have vO:=HV.o _ (List.getElem_mem aO)
   have vK:w.heap.size<wo.heap.size:=zi aG
   obtain ⟨m,hm⟩:=Ex (A[k].2.length)
   have dp:=Hy hm
   rw [hm] at e1 vO
   obtain ⟨rl,bP⟩:=Ex (TL[k].2.1)
   rw [bP] at vN
   have rd:G[k]=(A[k].2.map fun s=>(ruN rl s).1):=by
    have:=HG.o.1
    subst this
    simp [nmG,nmV,bP]
   have JV:=Hy rd
   have gR:∀ j (hj:j<A[k].2.length),(ruN rl A[k].2[j]).2=false->zbM TL A=false:=fun j hj h=>gI.o k sS aO j hj (by rw [bP];exact h)
   have cr:=Hy gR
   obtain ⟨nm,aJ⟩:=Ex (A[k].1)
   rw [aJ] at e0
   obtain ⟨W2,aL⟩:=Ex (wo.alloc (.cells #[.string ⟨nm.toArray⟩,.slice va m vc] 74))
   have ak:=Nb aL
   have y2:=Nw aL
   obtain ⟨i0,i1⟩:=zf y2
   have wW:=kD k xL Lr
   have DK:vs.set k (.slice none 0 0)=vs:=by
    rw [<- wW];exact List.set_getElem_self xL
   have eD:(∀ j (hj:j<A[k].2.length),(ruN rl A[k].2[j]).2=true)->∀ i (h1:i<TL.length) (h2:i<A.length) j (hj:j<A[i].2.length),i<k+1->(ruN TL[i].2.1 A[i].2[j]).2=true:=by
    intro hx i h1 h2 j hj hi
    by_cases e:i=k
    ·subst e;rw [bP];exact hx j hj
    exact af i h1 h2 j hj Om
   have HAl:=Hy eD
   have HI:=Hy (An dt (An aG (An kD (An lK (An hb DK)))))
   have fp:=Hy aL
   have bw:=Hy ak
   have eS:=Hy vN
   clear dt aG kD lK hb DK af eD aL ak y2 wW aJ bP rd gR hm ju aU aP DI vN DJ
   go_wp2
   rw [fp.o]
   clear i0 i1 e0 e1
   go_loopw [26] (fun v wz=>∃ (j:Nat) (cv:Value),j<=m/\v=.int .i64 (j:Nat)/\wz.heap[w.heap.size]?=some (.cells (vs.set k cv).toArray 47 (0,0))/\wz.ownsRow wo.heap.size 9 1 cv j (sc (G[k].take j))/\Chg (fun i=>i=w.heap.size) wo wz /\
     ∀ q (hq:q<A[k].2.length),q<j->(ruN rl A[k].2[q]).2=true) (fun v _=>m - (intOf v).toNat)
   case atStart=>exact ⟨0,.slice none 0 0,by omega,rfl,by rw [HI.o.2.2.2.2.2];exact zj HI.o.2.1 bw.o vK,⟨rfl,.inl ⟨rfl,rfl⟩⟩,Chg.ofBelow bw.o,fun q _ h=>by omega⟩
   case round =>
    obtain ⟨j,cv,hj,rfl,aG,aA,bj,db⟩:=hrel
    have aW:=bj.size
    have aq:Below w.heap.size w wr:=HI.o.2.2.2.2.1.trans (bj.toBelow cQ (fun i _ h=>by have h:i=w.heap.size:=h;omega))
    have hkvs:k<(vs.set k cv).length:=by rw [List.length_set];exact xL
    obtain ⟨ca,cc,rfl⟩:=zh aA
    by_cases lT:j<m
    ·have sd:(j:Int)<(m:Int):=by omega
     have jq:j<A[k].2.length:=by rw [dp.o];exact lT
     obtain ⟨g3,o3,rfl,fq,vw⟩:=sO.o j jq
     have v0:=(aq.cell (p:=⟨g3,_,none⟩) fq).trans vw
     have t1:=(aq.cell (p:=⟨g2,_,none⟩) cf).trans eS.o
     have vP:=Hy (cr.o j jq)
     have Oe:j<G[k].length:=by rw [JV.o];simpa using jq
     have JW:G[k][j]=(ruN rl A[k].2[j]).1:=by simp [JV.o]
     obtain ⟨s,hs⟩:=Ex (A[k].2[j])
     have vQ:(ruN rl s).2=true->∀ q (hq:q<A[k].2.length),q<j+1->(ruN rl A[k].2[q]).2=true:=by
      intro hx q hq Ci
      by_cases e:q=j
      ·subst e;rw [hs];exact hx
      exact db q hq Om
     rw [hs] at v0 JW vP
     have HN:=Hy (zkc rl s wr (zax HE.o aq))
     have HJ:=Hy (An aG (An aA (An bj (An aq (An Oe JW)))))
     obtain ⟨⟨x,ok⟩,hp⟩:∃ p,ruN rl s=p:=⟨_,rfl⟩
     rw [hp] at HN vP vQ
     have HGd:=Hy vQ
     have HP:=Hy (show (ruN rl s).1=x by rw [hp])
     have cL:w.heap.size<wr.heap.size:=zi aG
     clear aG aA bj aq db vw hs hp vQ JW
     go_wp2_with fail
     refine HN.o.mono ?_
     rintro en w5 ⟨rfl,ai⟩
     have hb5s:=ai.size
     cases ok with
     | false =>
      have HQ:=Hy (An (vP.o rfl) (HJ.o.2.2.2.1.trans (ai.mono HJ.o.2.2.2.1.size)))
      clear ai v0 t1
      go_wp2
      go_ret2
      exact zCk HQ.o.1 HQ.o.2
     | true =>
      have HQ:=Hy (HGd.o rfl)
      have blk5:=zj HJ.o.1 ai cL
      have row5:=zu HJ.o.2.1 ai
      have JX:Chg (fun i=>i=w.heap.size) wo w5:=HJ.o.2.2.1.below (ai.mono aW)
      have c5:=zq blk5 k (.slice ca j cc) (by simp [xL])
      have HK:=Hy (An blk5 (An row5 JX))
      have ql:w.heap.size<w5.heap.size:=zi blk5
      have JY:wo.heap.size<=w5.heap.size:=JX.size
      clear ai v0 t1 blk5 row5 JX
      go_wp2_with (at_builtin;refine zaM rfl (.tmp 47) (.tmp 49) 47 9 rfl wo.heap.size 1 16 _ Tryz.sninfo9 underlying47 rfl De [_] rfl (by intro u hu;simp at hu;subst hu;rfl) (.slice ca j cc) j (sc (G[k].take j)) rfl _ rfl rfl HK.o.2.1 Mx Om JY ?_;intro v' w' h1 h2 h3;obtain ⟨na,nc,rfl⟩:=zh h1;have g9:=zV HK.o.1 h2 (fun e=>by have:=(HK.o.2.1.lt _ e.symm).1;omega);have q1:=zc g9 k;have q2:=zq g9 k (.slice ca j cc) (by simp [xL]))
      have DM:(w'.setCell ⟨w.heap.size,k,none⟩ (.slice na (j+1) nc)).heap[w.heap.size]?=some (.cells (vs.set k (.slice na (j+1) nc)).toArray 47 (0,0)):=by
       have:=zH g9 k (.slice na (j+1) nc)
       rw [List.setIfInBounds_toArray,List.set_set] at this
       exact this
      have chS:Chg (fun i=>i=w.heap.size) w' (w'.setCell ⟨w.heap.size,k,none⟩ (.slice na (j+1) nc)):=(Chg.refl (fun i=>i=w.heap.size) w').setCell (p:=⟨w.heap.size,k,none⟩) (fun _=>rfl) _
      have JZ:Chg (fun i=>i=w.heap.size) wo (w'.setCell ⟨w.heap.size,k,none⟩ (.slice na (j+1) nc)):=(HK.o.2.2.trans h2 (fun i hi h=>by have:=(HK.o.2.1.lt i h.symm).1;omega)).trans chS Fi
      have DO:=zz h1 chS (fun i hi e=>by have:=(h1.lt i hi).1;have e:i=w.heap.size:=e;omega)
      refine ⟨⟨j+1,.slice na (j+1) nc,by omega,by go_num,DM,?_,JZ,HQ.o⟩,by simp [intOf];omega⟩
      rw [List.take_succ_eq_append_getElem Oe,zfz,HJ.o.2.2.2.2.2,HP.o]
      exact DO
    obtain rfl:j=m:=by omega
    have DP:G[k].length=j:=by rw [JV.o];simpa using dp.o
    have cE:wr.ownsRow wo.heap.size 9 1 (.slice ca j cc) G[k].length (sc G[k]):=by
     have h1:G[k].take j=G[k]:=List.take_of_length_le Om
     rw [h1] at aA
     rw [DP]
     exact aA
    have eK:TxR wr (.slice ca j cc) G[k]:=zaL cE
    have hdn:=zCo (zCn HI.o.2.2.2.1 bj) xL hkG (.slice ca j cc) eK (fun g o n c e=>by injection e with e;have:=(aA.lt g (by rw [e];rfl)).1;omega)
    have sY:∀ i (h:i<(vs.set k (.slice ca j cc)).length),k+1<=i->(vs.set k (.slice ca j cc))[i]=.slice none 0 0:=by
     intro i h hi
     rw [List.getElem_set_ne Om]
     exact HI.o.2.2.1 i (by simpa using h) Om
    have HF:=Hy (An aG (An sY (An hdn (An aq (HAl.o (fun q hq=>db q hq (by rw [dp.o] at hq;omega)))))))
    have J0:(vs.set k (Value.slice ca j cc)).length=n:=by rw [List.length_set];exact HI.o.1
    clear aG aA cE eK hdn sY bj aq db DP
    go_wp2
    exact ⟨⟨k+1,_,by omega,by go_num,J0,HF.o.1,HF.o.2.1,HF.o.2.2.1,HF.o.2.2.2.1,HF.o.2.2.2.2⟩,by simp [intOf];omega⟩
  obtain rfl:k=n:=by omega
  have eB:zcN wo (.slice (some ⟨w.heap.size,0,none⟩) k k) G:=by
   refine ⟨_,_,by rw [HG.o.2],fun i hi=>?_⟩
   have jd:i<vs.length:=by rw [dt,<- HG.o.2];exact hi
   refine ⟨w.heap.size,0,vs[i],rfl,zi aG,?_,(lK i jd hi (by rw [<- dt];exact jd)).1⟩
   rw [Nat.zero_add]
   exact zq aG i _ (by simp [jd])
  have H:=Hy (An eB (An hb (pM.o (fun i h1 h2 j hj=>af i h1 h2 j hj (by rw [<- HL.o.2];exact h1)))))
  clear dt aG kD lK hb af eB
  go_wp2
  go_ret2
  exact zCl H.o.2.2 (by rw [HG.o.1];exact H.o.1) H.o.2.1
theorem zrg (h:zab w mv N):∃ q,mv=.map q:=by
 rcases h with ⟨h,_⟩ | ⟨b,D,h,_⟩
 ·exact ⟨_,h⟩
 exact ⟨_,h⟩
def zhZ (N:List (Bs)) (w:World) (en:Ending) (w':World):Prop :=
 (¬ N.Nodup->en=.returned (.tuple #[.agg #[.map none],.bool false]))/\(N.Nodup->∃ mv,en=.returned (.tuple #[.agg #[mv],.bool true])/\zab w' mv N)/\Below w.heap.size w w'
theorem zCq (h:¬ N.Nodup) (hb:Below w.heap.size w w'):zhZ N w (.returned (.tuple #[.agg #[.map none],.bool false])) w':=⟨fun _=>rfl,fun h2=>absurd h2 h,hb⟩
theorem zCr (h:N.Nodup) (hm:zab w' mv N) (hb:Below w.heap.size w w'):zhZ N w (.returned (.tuple #[.agg #[mv],.bool true])) w':=⟨fun h2=>absurd h h2,fun _=>⟨mv,rfl,hm⟩,hb⟩
def zc7 (w:World) (g B:Nat) (N:List (Bs)):Prop:=∃ mv,w.heap[g]?=some (.cells #[mv] 96 (0,0))/\zab w mv N/\(∀ b,mv=.map (some b)->B<=b)
theorem zrh (w:World):zc7 (w.alloc (.cells #[.map none] 96)) w.heap.size w.heap.size []:=⟨.map none,heap_alloc_new w _,zfV _,fun b h=>by cases h⟩
theorem zCs {g:Nat} (h:zc7 w g B N) (hb:Below w.heap.size w w'):zc7 w' g B N:=by
 obtain ⟨mv,h1,h2,h3⟩:=h
 exact ⟨mv,Ob h1 hb,zcf h2 hb,h3⟩
def zCt (g B:Nat) (N:List (Bs)) (s:Bs) (w:World) (en:Ending) (w':World):Prop :=
 (∀ i,ixL N s=some i->en=.returned (.bool false)/\w=w')/\(ixL N s=none->en=.returned (.bool true)/\zc7 w' g B (N++[s])/\Below B w w')
theorem zri (g B:Nat) (N:List (Bs)) (s:Bs) (w:World) (h:zc7 w g B N) (hB:B<=g) (hBw:B<=w.heap.size) (hN:N.length<=1000000) (hs:s.length<=140737488355328) :
  Calls prog 73 #[.pointer (some ⟨g,0,none⟩),.string ⟨s.toArray⟩] w (zCt g B N s w):=by
 obtain ⟨mv,h1,h2,h3⟩:=h
 refine (zhS g 0 #[mv] _ mv N s w h1 rfl h2 hN hs).mono ?_
 rintro en w' ⟨ha,hb⟩
 refine ⟨ha,fun hq=>?_⟩
 obtain ⟨b,rfl,g8,qu,jm,iQ⟩:=hb hq
 refine ⟨rfl,⟨.map (some b),g8,qu,fun b' e=>?_⟩,iQ.toBelow hBw (fun k _ hk=>?_)⟩
 ·injection e with e;injection e with e;subst e
  rcases jm with e | ⟨_,e⟩
  ·exact h3 _ e
  omega
 rcases hk with hk | hk
 ·omega
 exact h3 _ hk
theorem zCu (TL:List Ty) (tv:Value) (w:World) (hT:zL w tv TL) (hl:TL.length<=1000000) (hs:∀ t∈TL,t.1.length<=140737488355328) :
  Calls prog 99 #[tv] w (zhZ (TL.map (·.1)) w):=by
 obtain ⟨ta,tc,rfl,pH⟩:=hT
 have HT:=Hy pH
 have HS:=Hy hs
 obtain ⟨n,hn⟩:=Ex TL.length
 have HL:=Hy hn
 obtain ⟨N,hN⟩:=Ex (TL.map (·.1))
 have HN:=Hy hN
 have kk:N.length=n:=by rw [<- hN];simpa using hn
 have lE:=Hy kk
 rw [hN]
 rw [hn] at hl ⊢
 have au:Below w.heap.size w ((w.alloc (.cells #[.map none] 96)).alloc (.cells #[.map none] 96)):=((Br w).alloc Lr _).alloc Sm _
 have x0:((w.alloc (.cells #[.map none] 96)).alloc (.cells #[.map none] 96)).heap[w.heap.size]?=some (.cells #[.map none] 96 (0,0)):=za0 (heap_alloc_new w _) _
 have Fm:=zrh (w.alloc (.cells #[.map none] 96))
 rw [World.size_alloc] at Fm
 have mP:((w.alloc (.cells #[.map none] 96)).alloc (.cells #[.map none] 96)).heap.size=w.heap.size+2:=by simp
 obtain ⟨W1,aB⟩:=Ex ((w.alloc (.cells #[.map none] 96)).alloc (.cells #[.map none] 96))
 rw [aB] at au x0 Fm mP
 have HX:=Hy (An au (An x0 Fm))
 have br:=Hy aB
 clear pH hs hn hN kk aB au x0 Fm
 go_enter func99,ntmps99
 go_wp2
 rw [br.o]
 go_loopw [9] (fun v wr=>∃ k:Nat,k<=n/\v=.int .i64 (k:Nat)/\zc7 wr (w.heap.size+1) (w.heap.size+1) (N.take k)/\(N.take k).Nodup/\Below (w.heap.size+1) W1 wr) (fun v _=>n - (intOf v).toNat)
 case atStart=>exact ⟨0,by omega,rfl,HX.o.2.2,by simp,Br _⟩
 case round =>
  obtain ⟨k,hk,rfl,sZ,bR,hb⟩:=hrel
  have cQ:=hb.size
  have aq:Below w.heap.size w wr:=HX.o.1.trans (hb.mono Om)
  have x0:=zj HX.o.2.1 hb Om
  by_cases aj:k<n
  ·have bh:(k:Int)<(n:Int):=by omega
   have aO:k<TL.length:=by rw [HL.o];exact aj
   obtain ⟨g1,o1,rfl,bI,aU,aP,cI⟩:=HT.o k aO
   have e0:=(aq.cell (p:=⟨g1,_,none⟩) bI).trans aU
   have e1:=(aq.cell (p:=⟨g1,_,none⟩) bI).trans aP
   have e2:=(aq.cell (p:=⟨g1,_,none⟩) bI).trans cI
   have dO:=HS.o _ (List.getElem_mem aO)
   have Of:k<N.length:=by rw [lE.o];exact aj
   have qf:N[k]=TL[k].1:=by
    have:=HN.o
    subst this
    simp
   obtain ⟨nm,aJ⟩:=Ex (TL[k].1)
   obtain ⟨rl,bP⟩:=Ex (TL[k].2.1)
   obtain ⟨sg,fL⟩:=Ex (TL[k].2.2)
   rw [aJ] at e0 dO qf
   rw [bP] at e1
   rw [fL] at e2
   have fh:N.take (k+1)=N.take k++[nm]:=by rw [List.take_succ_eq_append_getElem Of,qf]
   obtain ⟨W2,aL⟩:=Ex (wr.alloc (.cells #[.string ⟨nm.toArray⟩,.int .i64 rl,.bool sg] 69))
   have ak:=Nb aL
   have y2:=Nw aL
   have HC:=Hy (zri (w.heap.size+1) (w.heap.size+1) (N.take k) nm W2 (zCs sZ ak) Lr (by have:=ak.size;omega) So dO)
   obtain ⟨i0,i1,i2⟩:=ze y2
   have HI:=Hy (An bR (An (hb.trans (ak.mono Om)) (An fh (An qf Of))))
   have fp:=Hy aL
   have oq:=Hy (An (Ob x0 ak) (aq.trans (ak.mono aq.size)))
   clear sZ bR hb aq x0 aU aP cI dO qf aJ bP fL fh aL ak y2
   go_wp2_with fail
   rw [fp.o]
   refine HC.o.mono ?_
   rintro en w5 ⟨dh,di⟩
   have HA:=Hy (An dh di)
   clear dh di
   cases hq:ixL (N.take k) nm with
   | some i =>
    obtain ⟨rfl,rfl⟩:=HA.o.1 i hq
    have HQ:=Hy (ze5 HI.o.2.2.2.2 HI.o.2.2.2.1 hq)
    clear hq
    have r0:=zq oq.o.1 0 _ rfl
    have f0:=zc oq.o.1 0
    go_wp2
    have s0:=zq (zH oq.o.1 0 (.map none)) 0 (.map none) rfl
    refine bodyPost_ret (v:=.tuple #[.agg #[.map none],.bool false]) (by simp [results,results99,go_sem, *]) rfl ?_
    exact zCq HQ.o (oq.o.2.setCell (p:=⟨w.heap.size,0,none⟩) Lr _)
   | none =>
    obtain ⟨rfl,jY,ai⟩:=HA.o.2 hq
    have HE:=Hy (An jY (An (zfX HI.o.1 hq) (HI.o.2.1.trans ai)))
    clear hq jY ai i0 i1 i2
    exact zra
  obtain rfl:k=n:=by omega
  have DQ:N.take k=N:=List.take_of_length_le (by rw [lE.o];exact Nat.le_refl _)
  rw [DQ] at sZ bR
  obtain ⟨mv,h1,h2,h3⟩:=sZ
  obtain ⟨q,rfl⟩:=zrg h2
  have r1:=zq h1 0 _ rfl
  have r0:=zq x0 0 _ rfl
  have f0:=zc x0 0
  have H:=Hy (An bR (An (zbJ h2 ((Chg.refl (fun i=>i=w.heap.size) wr).setCell (p:=⟨w.heap.size,0,none⟩) (fun _=>rfl) (.map q)) (fun b hb e=>by have:=h3 b hb;have e:b=w.heap.size:=e;omega)) (An (aq.setCell (p:=⟨w.heap.size,0,none⟩) Lr (.map q)) (zq (zH x0 0 (.map q)) 0 (.map q) rfl))))
  clear bR hb aq x0 h1 h2 h3 DQ
  go_wp2
  have s0:=H.o.2.2.2
  refine bodyPost_ret (v:=.tuple #[.agg #[.map q],.bool true]) (by simp [results,results99,go_sem, *]) rfl ?_
  exact zCr H.o.1 H.o.2.1 H.o.2.2.1
def zan (l:List (Bs)):Bool := !decide l.Nodup
theorem zrj (h:¬ l.Nodup):zan l=true:=by unfold zan;rw [decide_eq_false h];rfl
theorem zrk (h:l.Nodup):zan l=false:=by unfold zan;rw [decide_eq_true h];rfl
def zCv (g:Nat) (N:List (Bs)) (s:Bs) (w:World) (en:Ending) (w':World):Prop :=
 (∀ i,ixL N s=some i->en=.returned (.bool true)/\w=w')/\(ixL N s=none->en=.returned (.bool false)/\zc7 w' g g (N++[s])/\Below g w w')
theorem zCw (g:Nat) (N:List (Bs)) (s:Bs) (w:World) (h:zc7 w g g N) (hB:g<=w.heap.size) (hN:N.length<=1000000) (hs:s.length<=140737488355328) :
  Calls prog 137 #[.string ⟨s.toArray⟩,.pointer (some ⟨g,0,none⟩)] w (zCv g N s w):=by
 have HC:=Hy (zri g g N s w h Lr hB hN hs)
 clear h
 go_enter func137,ntmps137
 go_wp2_with fail
 refine HC.o.mono ?_
 rintro en w5 ⟨dh,di⟩
 have HA:=Hy (An dh di)
 clear dh di
 cases hq:ixL N s with
 | some i =>
  obtain ⟨rfl,rfl⟩:=HA.o.1 i hq
  have HQ:=Hy hq
  clear hq
  go_wp2
  go_ret
  exact ⟨fun _ _=>⟨rfl,rfl⟩,(fun h=>by rw [HQ.o] at h;cases h)⟩
 | none =>
  obtain ⟨rfl,jY,ai⟩:=HA.o.2 hq
  have HQ:=Hy (An hq (An jY ai))
  clear hq jY ai
  go_wp2
  go_ret
  exact ⟨(fun i h=>by rw [HQ.o.1] at h;cases h),fun _=>⟨rfl,HQ.o.2.1,HQ.o.2.2⟩⟩
def IxB (b:Bool) (g:Nat) (w:World) (en:Ending) (w':World):Prop:=∃ n:Int,en=.returned (.int .i64 n)/\decide (0<=n)=b/\Below g w w'
theorem zCx (l:List (Bs)) (v:Value) (g:Nat) (w0 w:World) (ht:TxR w0 v l) (aE:Below g w0 w) (wU:w0.heap.size<=g) (h:zc7 w g g []) (hl:l.length<=1000000) (hs:∀ s∈l,s.length<=140737488355328) :
  Calls prog 117 #[v,.func (.func 137) #[] #[.pointer (some ⟨g,0,none⟩)]] w (IxB (zan l) g w):=by
 obtain ⟨a,c,rfl,ae⟩:=ht
 have HM:=Hy ae
 have HS:=Hy hs
 have gm:=Hy aE
 have HT:=Hy h
 obtain ⟨n,hn⟩:=Ex l.length
 have HL:=Hy hn
 rw [hn] at hl ⊢
 have mQ:g<w.heap.size:=by obtain ⟨mv,h1,_⟩:=h;exact zi h1
 clear ae hn hs h aE
 go_enter func117,ntmps117
 go_wp2
 go_loopw [8] (fun v wr=>∃ k:Nat,k<=n/\v=.int .i64 (k:Nat)/\zc7 wr g g (l.take k)/\(l.take k).Nodup/\Below g w wr) (fun v _=>n - (intOf v).toNat)
 case atStart=>exact ⟨0,by omega,rfl,HT.o,by simp,Br _⟩
 case round =>
  obtain ⟨k,hk,rfl,sZ,bR,hb⟩:=hrel
  have cQ:=hb.size
  by_cases aj:k<n
  ·have bh:(k:Int)<(n:Int):=by omega
   have aO:k<l.length:=by rw [HL.o];exact aj
   obtain ⟨g1,o1,rfl,bI,aU⟩:=HM.o k aO
   have e0:=((gm.o.trans hb).cell (p:=⟨g1,_,none⟩) (by show g1<g;omega)).trans aU
   have dO:=HS.o _ (List.getElem_mem aO)
   obtain ⟨s,k5⟩:=Ex (l[k])
   rw [k5] at e0 dO
   have fh:l.take (k+1)=l.take k++[s]:=by rw [List.take_succ_eq_append_getElem aO,k5]
   have HC:=Hy (zCw g (l.take k) s wr sZ Om So dO)
   have HI:=Hy (An bR (An hb (An fh (An k5 aO))))
   clear sZ bR hb aU dO fh k5
   go_wp2_with fail
   refine HC.o.mono ?_
   rintro en w5 ⟨dh,di⟩
   have HA:=Hy (An dh di)
   clear dh di
   cases hq:ixL (l.take k) s with
   | some i =>
    obtain ⟨rfl,rfl⟩:=HA.o.1 i hq
    have HQ:=Hy (zrj (ze5 HI.o.2.2.2.2 HI.o.2.2.2.1 hq))
    clear hq e0
    go_wp2
    go_ret
    exact ⟨_,rfl,by rw [HQ.o];simp,HI.o.2.1⟩
   | none =>
    obtain ⟨rfl,jY,ai⟩:=HA.o.2 hq
    have HE:=Hy (An jY (An (zfX HI.o.1 hq) (HI.o.2.1.trans ai)))
    clear hq jY ai e0
    exact zra
  obtain rfl:k=n:=by omega
  have DQ:l.take k=l:=List.take_of_length_le (by rw [HL.o];exact Nat.le_refl _)
  rw [DQ] at bR
  have H:=Hy (An (zrk bR) hb)
  clear sZ bR hb DQ
  go_wp2
  go_ret
  exact ⟨_,rfl,by rw [H.o.1];rfl,H.o.2⟩
theorem zCy (l:List (Bs)) (v:Value) (w:World) (ht:TxR w v l) (hl:l.length<=1000000) (hs:∀ s∈l,s.length<=140737488355328) :
  Calls prog 101 #[v] w (BB (zan l) w):=by
 have aE:Below w.heap.size w (w.alloc (.cells #[.map none] 96)):=(Br w).alloc Lr _
 have HC:=Hy (zCx l v w.heap.size w _ ht aE Lr (zrh w) hl hs)
 have HB:=Hy aE
 obtain ⟨a,c,rfl,_⟩:=ht
 obtain ⟨R,hR⟩:=Ex (zan l)
 rw [hR] at HC ⊢
 clear hs aE hR
 go_enter func101,ntmps101
 go_wp2_with fail
 go_in
 go_wp2_with fail
 refine HC.o.mono ?_
 rintro en w1 ⟨n,rfl,hn,hb⟩
 have H:=Hy (An hn (HB.o.trans hb))
 clear hn hb
 go_wp2
 go_ret
 exact zB H.o.1.symm H.o.2
theorem zCz (T:List (List (Bs))) (tv:Value) (w:World) (h:zcN w tv T) (hl:T.length<=1000000) (eF:∀ l∈T,l.length<=1000000/\∀ s∈l,s.length<=140737488355328) :
  Calls prog 136 #[tv,.func (.func 101) #[] #[]] w (ze4 (T.any zan) w):=by
 obtain ⟨a,c,rfl,ae⟩:=h
 have HM:=Hy ae
 have HS:=Hy eF
 obtain ⟨n,hn⟩:=Ex T.length
 have HL:=Hy hn
 have HY:=Hy (zdJ (l:=T) (q:=zan))
 have HN:=Hy (zdK (l:=T) (q:=zan))
 obtain ⟨R,hR⟩:=Ex (T.any zan)
 rw [hR] at HY HN ⊢
 rw [hn] at hl ⊢
 clear ae hn hR eF
 go_enter func136,ntmps136
 go_wp2
 go_loopw [8] (fun v wr=>∃ k:Nat,k<=n/\v=.int .i64 (k:Nat)/\Below w.heap.size w wr/\∀ j (hj:j<T.length),j<k->zan T[j]=false) (fun v _=>n - (intOf v).toNat)
 case atStart=>exact ⟨0,by omega,rfl,Br _,fun j _ h=>by omega⟩
 case round =>
  obtain ⟨k,hk,rfl,hb,af⟩:=hrel
  have cQ:=hb.size
  by_cases aj:k<n
  ·have bh:(k:Int)<(n:Int):=by omega
   have aO:k<T.length:=by rw [HL.o];exact aj
   obtain ⟨g,o,vl,rfl,hg,aU,tx⟩:=HM.o k aO
   have e0:=(hb.cell (p:=⟨g,_,none⟩) hg).trans aU
   have dO:=HS.o _ (List.getElem_mem aO)
   have HF:=Hy (zCy T[k] vl wr (zA tx hb) dO.1 dO.2)
   obtain ⟨va,vc,rfl,_⟩:=tx
   obtain ⟨bq,aX⟩:=Ex (zan T[k])
   have jt:=Hy (fun hx=>HY.o k aO (by rw [aX];exact hx))
   have HA:=Hy (fun (hx:bq=false) j (hj:j<T.length) (fB:j<k+1)=>(show zan T[j]=false by
    by_cases ji:j=k
    ·subst ji;rw [aX];exact hx
    exact af j hj Om))
   rw [aX] at HF
   obtain ⟨m,hm⟩:=Ex (T[k].length)
   rw [hm] at e0 HF
   have HB:=Hy hb
   clear hb af aU aX dO hm
   go_wp2_with fail
   refine HF.o.mono ?_
   rintro en w5 ⟨rfl,ai⟩
   have bY:=Hy (HB.o.trans (ai.mono cQ))
   clear ai e0
   exact zq8
  exact zq9
theorem zCA (T:List (List (Bs))) (tv:Value) (w:World) (h:zcN w tv T) (hl:T.length<=1000000) (eF:∀ l∈T,l.length<=1000000/\∀ s∈l,s.length<=140737488355328) :
  Calls prog 100 #[tv,.func (.func 101) #[] #[]] w (BB (T.any zan) w):=by
 have HC:=Hy (zCz T tv w h hl eF)
 obtain ⟨a,c,rfl,_⟩:=h
 obtain ⟨R,hR⟩:=Ex (T.any zan)
 rw [hR] at HC ⊢
 clear hR eF
 go_enter func100,ntmps100
 exact zrc
theorem zCB (T:List Atr) (tv:Value) (w:World) (h:zaB w tv T) (hl:T.length<=1000000) :
  Calls prog 134 #[tv,.func (.func 97) #[] #[]] w (ze4 (T.any fun a=>a.2.length==0) w):=by
 obtain ⟨a,c,rfl,ae⟩:=h
 have HM:=Hy ae
 obtain ⟨n,hn⟩:=Ex T.length
 have HL:=Hy hn
 have HY:=Hy (zdJ (l:=T) (q:=fun a=>a.2.length==0))
 have HN:=Hy (zdK (l:=T) (q:=fun a=>a.2.length==0))
 obtain ⟨R,hR⟩:=Ex (T.any fun a=>a.2.length==0)
 rw [hR] at HY HN ⊢
 rw [hn] at hl ⊢
 clear ae hn hR
 go_enter func134,ntmps134
 go_wp2
 go_loopw [8] (fun v wr=>∃ k:Nat,k<=n/\v=.int .i64 (k:Nat)/\Below w.heap.size w wr/\∀ j (hj:j<T.length),j<k->(T[j].2.length==0)=false) (fun v _=>n - (intOf v).toNat)
 case atStart=>exact ⟨0,by omega,rfl,Br _,fun j _ h=>by omega⟩
 case round =>
  obtain ⟨k,hk,rfl,hb,af⟩:=hrel
  have cQ:=hb.size
  by_cases aj:k<n
  ·have bh:(k:Int)<(n:Int):=by omega
   have aO:k<T.length:=by rw [HL.o];exact aj
   obtain ⟨g,o,vl,rfl,hg,aU,aP,tx⟩:=HM.o k aO
   have e0:=(hb.cell (p:=⟨g,_,none⟩) hg).trans aU
   have e1:=(hb.cell (p:=⟨g,_,none⟩) hg).trans aP
   obtain ⟨va,vc,rfl,_⟩:=tx
   obtain ⟨bq,aX⟩:=Ex (T[k].2.length==0)
   have jt:=Hy (fun hx=>HY.o k aO (by rw [aX];exact hx))
   have HA:=Hy (fun (hx:bq=false) j (hj:j<T.length) (fB:j<k+1)=>(show (T[j].2.length==0)=false by
    by_cases ji:j=k
    ·subst ji;rw [aX];exact hx
    exact af j hj Om))
   obtain ⟨nm,aJ⟩:=Ex (T[k].1)
   obtain ⟨m,hm⟩:=Ex (T[k].2.length)
   rw [aJ] at e0
   rw [hm] at e1 aX
   have hF:=zBu ⟨nm.toArray⟩ va m vc wr
   rw [aX] at hF
   have HF:=Hy hF
   have HB:=Hy hb
   clear hb af aU aP aX hm hF aJ
   go_wp2_with fail
   refine HF.o.mono ?_
   rintro en w5 ⟨rfl,ai⟩
   have bY:=Hy (HB.o.trans (ai.mono cQ))
   clear ai e0 e1
   exact zq8
  exact zq9
theorem zCC (T:List Atr) (tv:Value) (w:World) (h:zaB w tv T) (hl:T.length<=1000000) :
  Calls prog 96 #[tv,.func (.func 97) #[] #[]] w (BB (T.any fun a=>a.2.length==0) w):=by
 have HC:=Hy (zCB T tv w h hl)
 obtain ⟨a,c,rfl,_⟩:=h
 obtain ⟨R,hR⟩:=Ex (T.any fun a=>a.2.length==0)
 rw [hR] at HC ⊢
 clear hR
 go_enter func96,ntmps96
 exact zrc
def tmB (TL:List Ty) (G:List (List (Bs))):Bool:=(List.zipWith (fun t g=>t.2.2 && decide (1<g.length)) TL G).any id
theorem zrl (k:Nat) (h1:k<TL.length) (h2:k<G.length) (h:(TL[k].2.2 && decide (1<G[k].length))=true):tmB TL G=true:=by
 unfold tmB
 rw [List.any_eq_true]
 exact ⟨_,List.mem_iff_getElem.2 ⟨k,by simp;omega,rfl⟩,by simpa using h⟩
theorem zrm (h:∀ k (h1:k<TL.length) (h2:k<G.length),(TL[k].2.2 && decide (1<G[k].length))=false):tmB TL G=false:=by
 unfold tmB
 rw [List.any_eq_false]
 intro x hx
 obtain ⟨k,hk,rfl⟩:=List.getElem_of_mem hx
 have:=h k (by simp at hk;omega) (by simp at hk;omega)
 simp only [List.getElem_zipWith,id]
 rw [this];simp
theorem zCD (TL:List Ty) (G:List (List (Bs))) (tv gv:Value) (w:World) (hT:zL w tv TL) (hG:zcN w gv G) (eF:TL.length=G.length) (hl:G.length<=1000000) :
  Calls prog 102 #[tv,gv] w (BB (tmB TL G) w):=by
 obtain ⟨ta,tc,rfl,pH⟩:=hT
 obtain ⟨a,c,rfl,ae⟩:=hG
 have HT:=Hy pH
 have HM:=Hy ae
 have HY:=Hy (zrl (TL:=TL) (G:=G))
 have HN:=Hy (zrm (TL:=TL) (G:=G))
 obtain ⟨R,hR⟩:=Ex (tmB TL G)
 rw [hR] at HY HN ⊢
 obtain ⟨n,hn⟩:=Ex G.length
 have qw:TL.length=n:=eF.trans hn
 have HL:=Hy (An hn qw)
 rw [hn] at hl ⊢
 rw [qw]
 clear pH ae hn qw hR eF
 go_enter func102,ntmps102
 go_wp2
 go_loopw [9] (fun v wr=>∃ k:Nat,k<=n/\v=.int .i64 (k:Nat)/\Below w.heap.size w wr/\∀ j (h1:j<TL.length) (h2:j<G.length),j<k->(TL[j].2.2 && decide (1<G[j].length))=false) (fun v _=>n - (intOf v).toNat)
 case atStart=>exact ⟨0,by omega,rfl,Br _,fun j _ _ h=>by omega⟩
 case round =>
  obtain ⟨k,hk,rfl,hb,af⟩:=hrel
  have cQ:=hb.size
  by_cases aj:k<n
  ·have bh:(k:Int)<(n:Int):=by omega
   have aO:k<G.length:=by rw [HL.o.1];exact aj
   have sS:k<TL.length:=by rw [HL.o.2];exact aj
   obtain ⟨g,o,vl,rfl,hg,aU,tx⟩:=HM.o k aO
   obtain ⟨g2,o2,rfl,cf,DI,vN,DJ⟩:=HT.o k sS
   have e0:=(hb.cell (p:=⟨g,_,none⟩) hg).trans aU
   have t0:=(hb.cell (p:=⟨g2,_,none⟩) cf).trans DI
   have t1:=(hb.cell (p:=⟨g2,_,none⟩) cf).trans vN
   have t2:=(hb.cell (p:=⟨g2,_,none⟩) cf).trans DJ
   obtain ⟨va,vc,rfl,_⟩:=tx
   obtain ⟨bq,aX⟩:=Ex (TL[k].2.2 && decide (1<G[k].length))
   have jt:=Hy (fun hx=>HY.o k sS aO (by rw [aX];exact hx))
   have HA:=Hy (fun (hx:bq=false) j (h1:j<TL.length) (h2:j<G.length) (fB:j<k+1)=>(show (TL[j].2.2 && decide (1<G[j].length))=false by
    by_cases ji:j=k
    ·subst ji;rw [aX];exact hx
    exact af j h1 h2 Om))
   obtain ⟨nm,aJ⟩:=Ex (TL[k].1)
   obtain ⟨rl,bP⟩:=Ex (TL[k].2.1)
   obtain ⟨sg,fL⟩:=Ex (TL[k].2.2)
   obtain ⟨m,hm⟩:=Ex (G[k].length)
   rw [aJ] at t0
   rw [bP] at t1
   rw [fL] at t2 aX
   rw [hm] at e0 aX
   have HB:=Hy (An hb (hb.alloc cQ (.cells #[.string ⟨nm.toArray⟩,.int .i64 rl,.bool sg] 69)))
   have a0:=(((Br wr).alloc Lr (.cells #[.string ⟨nm.toArray⟩,.int .i64 rl,.bool sg] 69)).cell (p:=⟨g,o+k,none⟩) (Nat.lt_of_lt_of_le hg cQ)).trans e0
   cases sg
   ·have H:=Hy (HA.o (by rw [<- aX];rfl))
    exact zrb
   by_cases Dq:1<m
   ·have H:=Hy (jt.o (by rw [<- aX];simp [Dq]))
    have JN:(1:Int)<(m:Int):=by omega
    clear hb af aU DI vN DJ aX aJ bP fL hm
    go_wp2
    go_ret
    exact zB H.o HB.o.2
   have H:=Hy (HA.o (by rw [<- aX];simp [Dq]))
   have JN:(m:Int)<=1:=by omega
   exact zrb
  obtain rfl:k=n:=by omega
  have H:=Hy (HN.o (fun j h1 h2=>af j h1 h2 (by rw [<- HL.o.1];exact h2)))
  have HB:=Hy hb
  clear hb af
  go_wp2
  go_ret
  exact zB H.o HB.o
theorem zCE {t:Bs} (h:za s=za t):scC C s=scC C t:=by unfold scC;rw [h]
def zf0 (w:World) (L:List Cl) (Lq:List (Bs × Value × Value)):Prop :=
 Lq.length=L.length/\∀ i (h1:i<L.length) (h2:i<Lq.length),Lq[i].1=L[i].1/\TxR w Lq[i].2.1 L[i].2.1/\TxR w Lq[i].2.2 L[i].2.2/\zam Lq[i].2.1/\zam Lq[i].2.2
theorem zCF (w:World):zf0 w [] []:=⟨rfl,fun i h=>by simp at h⟩
theorem zCG {Lq:List (Bs × Value × Value)} (h:zf0 w L Lq) (c:Cl) (mu ma:Value) (h1:TxR w mu c.2.1) (h2:TxR w ma c.2.2) (h3:zam mu) (h4:zam ma):zf0 w (L++[c]) (Lq++[(c.1,mu,ma)]):=by
 refine ⟨by simp [h.1],fun i i1 i2=>?_⟩
 by_cases hi:i<L.length
 ·rw [List.getElem_append_left hi,List.getElem_append_left (by rw [h.1];exact hi)]
  exact h.2 i hi _
 have:i=L.length:=by simp at i1;omega
 subst this
 have e:Lq.length=L.length:=h.1
 simp only [List.getElem_append_right (Nat.le_refl L.length),Nat.sub_self,List.getElem_cons_zero]
 rw [List.getElem_append_right Om]
 simp [e,h1,h2,h3,h4]
theorem zCH {w0:World} {L:List (Bs × Value × Value)} (h:w.ownsRow B 72 3 v C.length (zaG L)) (hc:zf0 w0 C L) (hb:Below w0.heap.size w0 w):zai w v C:=by
 rcases h.2 with ⟨rfl,h0⟩ | ⟨g,cap,cur,rfl,_,hg,_⟩
 ·exact ⟨none,0,by rw [h0],fun i hi=>by omega⟩
 refine ⟨_,cap,rfl,fun i hi=>?_⟩
 have hl:i<L.length:=by rw [hc.1];exact hi
 obtain ⟨h0,t1,t2,s1,s2⟩:=hc.2 i hi hl
 obtain ⟨a1,a2,a3⟩:=zhU L i hl
 refine ⟨g,0,L[i].2.1,L[i].2.2,rfl,(Array.getElem?_eq_some_iff.1 hg).1,?_⟩
 rw [Nat.zero_add]
 exact ⟨(h.cellAt _ Om).trans (by rw [a1,h0]),(h.cellAt _ Om).trans a2,(h.cellAt _ Om).trans a3,zA t1 hb,zA t2 hb,s1,s2⟩
def zb3 (C:List Cl) (vs:List (Bs)):Bool:=vs.all fun s=>(scC C s).isSome
def zcO (C:List Cl) (vs:List (Bs)) (L:List Cl):Prop:=∀ c,c∈L ↔ ∃ s∈vs,scC C s=some c
def zkG (C:List Cl) (vs:List (Bs)) (w:World) (en:Ending) (w':World):Prop :=
 (zb3 C vs=false->en=.returned (.tuple #[.slice none 0 0,.bool false]))/\(zb3 C vs=true->∃ v L,en=.returned (.tuple #[v,.bool true])/\zai w' v L/\zcO C vs L/\L.length<=vs.length)/\Below w.heap.size w w'
theorem zCI (h:zb3 C vs=false) (hb:Below w.heap.size w w'):zkG C vs w (.returned (.tuple #[.slice none 0 0,.bool false])) w' :=
 ⟨fun _=>rfl,(fun h2=>by rw [h] at h2;cases h2),hb⟩
theorem zCJ (h:zb3 C vs=true) (hc:zai w' v L) (hi:zcO C vs L) (hl:L.length<=vs.length) (hb:Below w.heap.size w w'):zkG C vs w (.returned (.tuple #[v,.bool true])) w' :=
 ⟨(fun h2=>by rw [h] at h2;cases h2),fun _=>⟨v,L,rfl,hc,hi,hl⟩,hb⟩
theorem zrn (k:Nat) (hk:k<vs.length) (h:scC C vs[k]=none):zb3 C vs=false:=by
 unfold zb3
 rw [List.all_eq_false]
 exact ⟨vs[k],List.getElem_mem hk,by rw [h];simp⟩
theorem zro (h:∀ k (hk:k<vs.length),(scC C vs[k]).isSome=true):zb3 C vs=true:=by
 unfold zb3
 rw [List.all_eq_true]
 intro x hx
 obtain ⟨j,hj,rfl⟩:=List.getElem_of_mem hx
 exact h j hj
theorem zCK (hk:k<vs.length) (h:zcO C (vs.take k) L) {c:Cl} (hc:scC C vs[k]=some c) {i:Nat} (hi:ixL (L.map (·.1)) c.1=some i):zcO C (vs.take (k+1)) L:=by
 obtain ⟨cW,rF⟩:=zdg hi
 have DS:i<L.length:=by simpa using cW
 have J1:L[i].1=c.1:=by simpa using rF
 obtain ⟨s,hs,bk⟩:=(h L[i]).1 (List.getElem_mem DS)
 have h1:=zoN bk
 have h2:=zoN hc
 have e:scC C s=scC C vs[k]:=zCE (by rw [<- h1,J1,h2])
 have hcL:L[i]=c:=by rw [bk,hc] at e;injection e
 intro d
 rw [List.take_succ_eq_append_getElem hk]
 constructor
 ·intro hd
  obtain ⟨s,hs,bk⟩:=(h d).1 hd
  exact ⟨s,List.mem_append_left _ hs,bk⟩
 rintro ⟨s,hs,bk⟩
 rcases List.mem_append.1 hs with hs | hs
 ·exact (h d).2 ⟨s,hs,bk⟩
 rw [List.mem_singleton] at hs
 subst hs
 rw [hc] at bk
 injection bk with bk
 subst bk
 rw [<- hcL]
 exact List.getElem_mem DS
theorem zCL (hk:k<vs.length) (h:zcO C (vs.take k) L) {c:Cl} (hc:scC C vs[k]=some c):zcO C (vs.take (k+1)) (L++[c]):=by
 intro d
 rw [List.take_succ_eq_append_getElem hk,List.mem_append,List.mem_singleton,h d]
 constructor
 ·rintro (⟨s,hs,bk⟩ | rfl)
  ·exact ⟨s,List.mem_append_left _ hs,bk⟩
  exact ⟨_,List.mem_append_right _ (List.mem_singleton.2 rfl),hc⟩
 rintro ⟨s,hs,bk⟩
 rcases List.mem_append.1 hs with hs | hs
 ·exact .inl ⟨s,hs,bk⟩
 rw [List.mem_singleton] at hs
 subst hs
 rw [hc] at bk
 injection bk with bk
 exact .inr bk.symm
theorem zCM (g:Nat) (T:List Ty) (C:List Cl) (vs:List (Bs)) (v:Value) (w:World) (h:ic w g T C) (ds:zdh C) (aF:C.length<=1024) (ht:TxR w v vs) (hl:vs.length<=1000000) (hs:∀ s∈vs,s.length<=140737488355328) :
  Calls prog 138 #[.pointer (some ⟨g,2,none⟩),v] w (zkG C vs w):=by
 have bZ:=zkA h
 have HP:=Hy (fun w' (hb:Below w.heap.size w w') s (hs:s.length<=140737488355328)=>(show Calls prog 78 #[.pointer (some ⟨g,2,none⟩),.string ⟨s.toArray⟩] w' (zhQ (ixL (C.map (·.1)) s) w') by
  obtain ⟨m1,a1,n1,c1,m2,a2,n2,c2,h1,_,_,h2,_⟩:=zby h hb
  exact zhR g 2 m2 _ s w' (zc0 h1).2.2.1 h2 hs))
 have iJ:=Hy (show ∃ a1 c1,w.cell? ⟨g,3,none⟩=some (.slice a1 C.length c1)/\∀ i (hi:i<C.length),∃ g o mu ma,a1=some ⟨g,o,none⟩/\g<w.heap.size/\w.cell? ⟨g,o+i*3,none⟩=some (.string ⟨C[i].1.toArray⟩)/\w.cell? ⟨g,o+i*3+1,none⟩=some mu/\w.cell? ⟨g,o+i*3+2,none⟩=some ma/\TxR w mu C[i].2.1/\TxR w ma C[i].2.2/\zam mu/\zam ma by
  obtain ⟨m1,a1,n1,c1,m2,a2,n2,c2,h1,_,_,_,⟨a,c,e,h3⟩⟩:=h
  injection e with e1 e2 e3
  subst e1 e2 e3
  exact ⟨_,_,(zc0 h1).2.2.2,h3⟩)
 obtain ⟨a1,c1,Og,kX⟩:=iJ.o
 have J2:=Hy kX
 have Oh:=Hy Og
 clear iJ kX Og
 obtain ⟨a,c,rfl,ae⟩:=ht
 have HM:=Hy ae
 have HS:=Hy hs
 have J3:=Hy (fun s=>zx1 ds s)
 obtain ⟨n,hn⟩:=Ex vs.length
 have HL:=Hy hn
 obtain ⟨nC,xJ⟩:=Ex C.length
 have HLC:=Hy xJ
 rw [hn] at hl ⊢
 rw [xJ] at Oh aF
 have au:Below w.heap.size w (w.alloc (.cells #[.map none] 96)):=(Br w).alloc Lr _
 have x0:(w.alloc (.cells #[.map none] 96)).heap[w.heap.size]?=some (.cells #[.map none] 96 (0,0)):=heap_alloc_new w _
 obtain ⟨W1,aB⟩:=Ex (w.alloc (.cells #[.map none] 96))
 rw [aB] at au x0
 have HX:=Hy (An au x0)
 have br:=Hy aB
 clear ae hs hn xJ h ds aB au x0
 go_enter func138,ntmps138
 go_wp2
 rw [br.o]
 go_loopw [7,15] (fun s7 v wr=>∃ (k:Nat) (L:List Cl) (Lq:List (Bs × Value × Value)) (mv:Value) (ra:Option Addr) (rc:Nat),k<=n/\v=.int .i64 (k:Nat)/\s7=.slice ra L.length rc/\wr.heap[w.heap.size]?=some (.cells #[mv] 96 (0,0))/\zab wr mv (L.map (·.1))/\(∀ b,mv=.map (some b)->w.heap.size<b) /\
   wr.ownsRow (w.heap.size+1) 72 3 (.slice ra L.length rc) L.length (zaG Lq)/\zf0 w L Lq/\zcO C (vs.take k) L/\L.length<=k/\Below w.heap.size w wr/\∀ j (hj:j<vs.length),j<k->(scC C vs[j]).isSome=true) (fun _ v _=>n - (intOf v).toNat)
 case atStart=>exact ⟨0,[],[],.map none,none,0,by omega,rfl,rfl,HX.o.2,zfV _,fun b h=>(by cases h),⟨rfl,.inl ⟨rfl,rfl⟩⟩,zCF _,fun c=>by simp,by simp,HX.o.1,fun j _ h=>by omega⟩
 case round =>
  obtain ⟨k,L,Lq,mv,ra,rc,hk,rfl,rfl,aG,aJ,jm,aA,bG,pN,vL,hb,af⟩:=hrel
  have cQ:=hb.size
  by_cases aj:k<n
  ·have bh:(k:Int)<(n:Int):=by omega
   have aO:k<vs.length:=by rw [HL.o];exact aj
   obtain ⟨g1,o1,rfl,bI,aU⟩:=HM.o k aO
   have e0:=(hb.cell (p:=⟨g1,_,none⟩) bI).trans aU
   have dO:=HS.o _ (List.getElem_mem aO)
   have vK:w.heap.size<wr.heap.size:=zi aG
   have dB:=J3.o vs[k]
   have bJ:=zrn (C:=C) k aO
   have dh:=fun c hc i hi=>zCK (c:=c) aO pN hc (i:=i) hi
   have di:=fun c hc=>zCL (c:=c) aO pN hc
   have dE:(scC C vs[k]).isSome=true->∀ j (hj:j<vs.length),j<k+1->(scC C vs[j]).isSome=true:=by
    intro hx j hj fB
    by_cases e:j=k
    ·subst e;exact hx
    exact af j hj Om
   obtain ⟨s,k5⟩:=Ex (vs[k])
   rw [k5] at e0 dO dB bJ dh di dE
   have cV:=Hy (fun w=>show Calls prog 72 #[.string ⟨s.toArray⟩] w (zG (za s) w) from zco ⟨s.toArray⟩ w)
   have j4:(za s).length<=140737488355328:=by simpa [za] using dO
   obtain ⟨LS,mr⟩:=Ex (za s)
   rw [mr] at cV dB j4
   have HI:=Hy (An aG (An aJ (An jm (An aA (An bG (An pN (An hb af)))))))
   have HJ:=Hy (An dB (An bJ (An dh (An di (An dE j4)))))
   clear aG aJ jm aA bG pN hb af dB bJ dh di dE dO k5 aU
   go_wp2_with fail
   refine (cV.o _).mono ?_
   rintro en w5 ⟨rfl,ai⟩
   have jC:=HI.o.2.2.2.2.2.2.1.trans (ai.mono cQ)
   have xM:=Hy (HP.o w5 jC LS HJ.o.2.2.2.2.2)
   have bY:=Hy (An ai jC)
   have e8:=ai.size
   clear ai jC e0
   cases hq:ixL (C.map (·.1)) LS with
   | none =>
    rw [hq] at xM
    have vR:=Hy (show Calls prog 78 #[.pointer (some ⟨g,2,none⟩),.string ⟨LS.toArray⟩] w5 (fun en w''=>en=.returned (.tuple #[.int .i64 0,.bool false])/\w5=w'') from xM.o)
    have HQ:=Hy (HJ.o.2.1 (by rw [HJ.o.1,hq];rfl))
    clear hq mr xM
    go_wp2_with fail
    refine vR.o.mono ?_
    rintro en w6 ⟨rfl,rfl⟩
    go_wp2
    go_ret2
    exact zCI HQ.o bY.o.2
   | some i =>
    obtain ⟨oD,rF⟩:=zdg hq
    have hi:i<C.length:=by simpa using oD
    rw [hq] at xM
    have vR:=Hy (show Calls prog 78 #[.pointer (some ⟨g,2,none⟩),.string ⟨LS.toArray⟩] w5 (fun en w''=>en=.returned (.tuple #[.int .i64 (i:Nat),.bool true])/\w5=w'') from xM.o)
    have bk:scC C s=some C[i]:=by rw [HJ.o.1,hq];exact zq5 C i hi
    have Oi:C[i].1=LS:=by simpa using rF
    have vJ:=Hy (An bk Oi)
    have cG:(i:Int)<(nC:Int):=by rw [<- HLC.o];omega
    have hi'':(0:Int)<=(i:Int):=by omega
    clear hq mr xM rF oD bk Oi
    go_wp2_with fail
    refine vR.o.mono ?_
    rintro en w6 ⟨rfl,rfl⟩
    go_wp2_with fail
    refine (zhS w.heap.size 0 #[mv] 96 mv (L.map (·.1)) LS w5 (zj HI.o.1 bY.o.1 vK) rfl (zcf HI.o.2.1 bY.o.1) So HJ.o.2.2.2.2.2).mono ?_
    rintro en w8 ⟨dh,di⟩
    have pU:=Hy (An dh di)
    clear dh di
    have dE:=HJ.o.2.2.2.2.1 (by rw [vJ.o.1];rfl)
    have Oj:=Hy dE
    clear dE
    cases hq:ixL (L.map (·.1)) LS with
    | some q =>
     obtain ⟨rfl,rfl⟩:=pU.o.1 q hq
     have HQ:=Hy (HJ.o.2.2.1 _ vJ.o.1 q (by rw [vJ.o.2];exact hq))
     clear hq
     go_wp2
     exact ⟨⟨k+1,L,Lq,mv,ra,rc,by omega,by go_num,rfl,zj HI.o.1 bY.o.1 vK,zcf HI.o.2.1 bY.o.1,HI.o.2.2.1,zu HI.o.2.2.2.1 bY.o.1,HI.o.2.2.2.2.1,HQ.o,by omega,bY.o.2,Oj.o⟩,by simp [intOf];omega⟩
    | none =>
     obtain ⟨b,rfl,g8,qu,DT,iQ⟩:=pU.o.2 hq
     have mz:w8.heap[w.heap.size]?=some (.cells #[.map (some b)] 96 (0,0)):=g8
     have DU:Below w.heap.size w5 w8:=iQ.toBelow Om (fun j _ hj=>by
      rcases hj with hj | hj
      ·omega
      have:=HI.o.2.2.1 _ hj;omega)
     have fV:Below w.heap.size w w8:=bY.o.2.trans DU
     have row5:=zu HI.o.2.2.2.1 bY.o.1
     have Ok:=zcf HI.o.2.1 bY.o.1
     have row8:=zz row5 iQ (fun j hj=>by
      rintro (h | h)
      ·have:=(row5.lt j hj).1;omega
      subst h
      exact zdM row5 Ok j hj rfl)
     have jX:w.heap.size<b:=by
      rcases DT with h | ⟨_,h⟩
      ·exact HI.o.2.2.1 _ h
      omega
     obtain ⟨g2,o2,mu,ma,ea,cf,c0w,c1w,c2w,tu,ta,su,sa⟩:=J2.o i hi
     subst ea
     obtain ⟨a3,n3,c3,rfl⟩:=zdL su
     obtain ⟨a4,n4,c4,rfl⟩:=zdL sa
     have p3:=(fV.cell (p:=⟨g,3,none⟩) bZ).trans Oh.o
     have e0:=(fV.cell (p:=⟨g2,_,none⟩) cf).trans c0w
     have e1:=(fV.cell (p:=⟨g2,_,none⟩) cf).trans c1w
     have e2:=(fV.cell (p:=⟨g2,_,none⟩) cf).trans c2w
     have io:=zCG HI.o.2.2.2.2.1 C[i] _ _ tu ta su sa
     have vS:=HJ.o.2.2.2.1 _ vJ.o.1
     obtain ⟨nm,DV⟩:=Ex (C[i].1)
     rw [DV] at e0 io
     have xk:(L++[C[i]]).map (·.1)=L.map (·.1)++[LS]:=by rw [List.map_append,<- vJ.o.2];rfl
     obtain ⟨cc,wL⟩:=Ex (C[i])
     rw [wL] at io vS xk
     have lP:w.heap.size+1<=w8.heap.size:=by have:=zi mz;omega
     have H8:=Hy (An mz (An qu (An row8 (An fV (An jX (An io (An vS xk)))))))
     clear g8 mz qu DT iQ DU fV row5 Ok row8 jX io vS xk hq c0w c1w c2w tu ta su sa DV wL
     go_wp2_with (at_builtin;refine zaM rfl (.tmp 33) (.tmp 41) 29 72 rfl (w.heap.size+1) 3 64 _ Tryz.sninfo72 underlying29 rfl De [_,_,_] rfl (by intro u hu;simp at hu;rcases hu with rfl | rfl | rfl <;> rfl) (.slice ra L.length rc) L.length (zaG Lq) rfl _ rfl rfl H8.o.2.2.1 Mx Om lP ?_;intro v' w' h1 h2 h3;obtain ⟨na,nc,rfl⟩:=zh h1)
     have Cp:∀ j,(Value.slice ra L.length rc).ownBlock=some j->w.heap.size<j:=fun j hj=>by have:=(H8.o.2.2.1.lt j hj).1;omega
     have g9:=zV H8.o.1 h2 (fun e=>by have:=Cp _ e.symm;omega)
     have nm9:=zbJ H8.o.2.1 h2 (fun j hj e=>by injection hj with hj;injection hj with hj;exact zdM H8.o.2.2.1 H8.o.2.1 j e.symm hj.symm)
     have J4:Below w.heap.size w w':=H8.o.2.2.2.1.trans (h2.toBelow Om (fun j _ hj=>by have:=Cp _ hj.symm;omega))
     refine ⟨⟨k+1,L++[cc],Lq++[(nm,.slice a3 n3 c3,.slice a4 n4 c4)],.map (some b),na,nc,by omega,by go_num,by rw [List.length_append];rfl,g9,by rw [H8.o.2.2.2.2.2.2.2];exact nm9,fun j hj=>by injection hj with hj;injection hj with hj;rw [<- hj];exact H8.o.2.2.2.2.1,?_,?_,H8.o.2.2.2.2.2.2.1,by rw [List.length_append];show L.length+1<=_;omega,J4,Oj.o⟩,by simp [intOf];omega⟩
     ·rw [zqT,List.length_append]
      exact h1
     exact H8.o.2.2.2.2.2.1
  obtain rfl:k=n:=by omega
  have Ol:vs.take k=vs:=List.take_of_length_le (by rw [HL.o];exact Nat.le_refl _)
  rw [Ol] at pN
  have H:=Hy (An (zCH aA bG hb) (An pN (An hb (zro (fun j hj=>af j hj (by rw [<- HL.o];exact hj))))))
  clear aG aJ jm aA bG pN hb af Ol
  go_wp2
  go_ret2
  exact zCJ H.o.2.2.2 H.o.1 H.o.2.1 (by rw [HL.o];exact vL) H.o.2.2.1
def bls (al:List Bool):List Value:=al.map Value.bool
theorem zkH (al:List Bool) (i:Nat) (h:i<al.length):(bls al)[i]?=some (.bool al[i]):=by simp [bls,h]
theorem zrp (al:List Bool) (i:Nat) (b:Bool):(bls al).set i (.bool b)=bls (al.set i b):=by simp [bls,List.map_set]
theorem zCN (al:List Bool) (g c:Nat) (e:TypeId) (w:World) (h:w.heap[g]?=some (.cells (bls al).toArray e (0,0))) (hl:al.length<=1000000) :
  Calls prog 166 #[.slice (some ⟨g,0,none⟩) al.length c,.bool false] w (IxP (al.contains false) w):=by
 have HC:=Hy h
 obtain ⟨n,hn⟩:=Ex al.length
 have HL:=Hy hn
 have HY:=Hy (show ∀ i (hi:i<al.length),al[i]=false->al.contains false=true by
  intro i hi h
  rw [List.contains_eq_mem,decide_eq_true_eq,<- h]
  exact List.getElem_mem hi)
 have HN:=Hy (show (∀ i (hi:i<al.length),al[i]=true)->al.contains false=false by
  intro h
  rw [List.contains_eq_mem,decide_eq_false_iff_not]
  intro hm
  obtain ⟨i,hi,e⟩:=List.getElem_of_mem hm
  rw [h i hi] at e;cases e)
 obtain ⟨R,hR⟩:=Ex (al.contains false)
 rw [hR] at HY HN ⊢
 rw [hn] at hl ⊢
 clear hn hR h
 go_enter func166,ntmps166
 go_wp2
 go_loop [8] (fun v=>∃ k:Nat,k<=n/\v=.int .i64 (k:Nat)/\∀ j (hj:j<al.length),j<k->al[j]=true) (fun v=>n - (intOf v).toNat)
 case atStart=>exact ⟨0,by omega,rfl,fun j _ h=>by omega⟩
 case round =>
  obtain ⟨k,hk,rfl,af⟩:=hrel
  by_cases aj:k<n
  ·have bh:(k:Int)<(n:Int):=by omega
   have aO:k<al.length:=by rw [HL.o];exact aj
   have e0:=zq HC.o k _ (by simpa using zkH al k aO)
   have jt:=Hy (HY.o k aO)
   have HA:=Hy (fun (hx:al[k]=true) j (hj:j<al.length) (fB:j<k+1)=>(show al[j]=true by
    by_cases ji:j=k
    ·subst ji;exact hx
    exact af j hj Om))
   obtain ⟨bq,aX⟩:=Ex (al[k])
   rw [aX] at e0 jt HA
   clear af aX
   cases bq
   ·have H:=Hy (jt.o rfl)
    go_wp2
    go_ret
    exact ⟨_,rfl,by rw [H.o];simp,rfl⟩
   have H:=Hy (HA.o rfl)
   go_wp2
   exact ⟨⟨k+1,by omega,by go_num,H.o⟩,by simp [intOf];omega⟩
  obtain rfl:k=n:=by omega
  have H:=Hy (HN.o (fun j hj=>af j hj (by rw [<- HL.o];exact hj)))
  clear af
  go_wp2
  go_ret
  exact ⟨_,rfl,by rw [H.o];rfl,rfl⟩
theorem zCO (al:List Bool) (g c:Nat) (e:TypeId) (w:World) (h:w.heap[g]?=some (.cells (bls al).toArray e (0,0))) (hl:al.length<=1000000) :
  Calls prog 139 #[.slice (some ⟨g,0,none⟩) al.length c,.bool false] w (za1 (al.contains false) w):=by
 have HC:=Hy (zCN al g c e w h hl)
 obtain ⟨R,hR⟩:=Ex (al.contains false)
 rw [hR] at HC ⊢
 clear hR h
 go_enter func139,ntmps139
 go_wp2_with fail
 refine HC.o.mono ?_
 rintro en w1 ⟨n,rfl,hn,rfl⟩
 have H:=Hy hn
 clear hn
 go_wp2
 go_ret
 exact zag H.o.symm
theorem Tryz.sninfo4 : (prog.info? 4).map (fun i=>(i.zero,i.size,i.bytes))=some (some (.bool false),1,1):=by kernel_rfl
theorem zCP (n:Nat) (W:World) (hn:n<=1000000):(Instr.makeSlice 197 (.int .i64 (n:Int)) (.int .i64 (n:Int))).run prog W=.ok (.slice (some ⟨W.heap.size,0,none⟩) n n) (W.alloc (.cells (bls (List.replicate n false)).toArray 4)):=by
 obtain ⟨i0,hi,bO,bi,ce⟩:=info_parts Tryz.sninfo4
 have h:=run_make (P:=prog) W 197 4 i0 (.bool false) underlying197 hi bO .i64 .i64 (n:Int) (n:Int) Om Om (by rw [ce];omega) Om
 have e:madeCells (Value.bool false).cells ((n:Int).toNat*i0.size)=(bls (List.replicate n false)).toArray:=by
  apply Array.ext'
  rw [bi,show (n:Int).toNat*1=n by omega]
  refine (toList_madeCells_one _ n).trans ?_
  simp [bls]
 rw [e] at h
 simpa using h
def okA (N:List (Bs)) (own:Nat) (S:List (Bs)) (al:List Bool):Prop:=al.length=N.length/\∀ i (h1:i<al.length) (h2:i<N.length),al[i]=(decide (i=own) || inL S N[i])
theorem zrq (S T:List (Bs)) (x:Bs):inL (S++T) x=(inL S x || inL T x):=by unfold inL;rw [List.any_append]
theorem zrr (m x:Bs):inL [m] x=(m==x):=by simp [inL]
theorem zCQ (N:List (Bs)) (own:Nat) (h:own<N.length):okA N own [] ((List.replicate N.length false).set own true):=by
 refine ⟨by simp,fun i h1 h2=>?_⟩
 by_cases e:i=own
 ·subst e;simp
 rw [List.getElem_set_ne (fun h=>e h.symm)];simp [e,inL]
theorem zrs (hn:N.Nodup) (h:okA N own S al) {m:Bs} {i:Nat} (hi:ixL N m=some i):okA N own (S++[m]) (al.set i true):=by
 obtain ⟨cW,rF⟩:=zdg hi
 refine ⟨by simpa using h.1,fun j h1 h2=>?_⟩
 rw [zrq,zrr]
 by_cases e:j=i
 ·subst e
  rw [List.getElem_set_self,rF];simp
 rw [List.getElem_set_ne (fun h=>e h.symm),h.2 j (by simpa using h1) h2]
 have:(m==N[j])=false:=by
  rw [beq_eq_false_iff_ne]
  intro e2
  rw [<- rF] at e2
  exact e ((List.getElem_inj hn).1 e2).symm
 rw [this,Bool.or_false]
theorem zCR (h:okA N own S al) {m:Bs} (hi:ixL N m=none):okA N own (S++[m]) al:=by
 refine ⟨h.1,fun j h1 h2=>?_⟩
 rw [zrq,zrr,h.2 j h1 h2]
 have:(m==N[j])=false:=by
  rw [beq_eq_false_iff_ne]
  intro e2
  exact zfH hi (e2 ▸ List.getElem_mem h2)
 rw [this,Bool.or_false]
def alS (L:List Cl):List (Bs):=L.flatMap fun c=>c.2.1++c.2.2
theorem zCS (L:List Cl) (k:Nat) (h:k<L.length):alS (L.take (k+1))=alS (L.take k)++L[k].2.1++L[k].2.2:=by
 unfold alS
 rw [List.take_succ_eq_append_getElem h,List.flatMap_append];simp
def zaW (C:List Cl) (N:List (Bs)) (A:List Atr):Bool :=
 match ixL N zM with
 | none=>false
 | some own=>match A[own]? with
  | none=>false
  | some a=>zb3 C a.2 && ((a.2.filterMap (scC C)).all fun c=>c.2.1.all (inL N)) && (N.all fun x=>x==zM || inL (alS (a.2.filterMap (scC C))) x)
theorem zrt (h:ixL N zM=none):zaW C N A=false:=by unfold zaW;rw [h]
theorem zCT (h:ixL N zM=some own) (ho:own<A.length) (hf:zb3 C A[own].2=false):zaW C N A=false:=by
 unfold zaW;rw [h];simp [ho,hf]
theorem zCU (h:ixL N zM=some own) (ho:own<A.length) {L:List Cl} (hL:zcO C A[own].2 L) {c:Cl} (hc:c∈L) {m:Bs} (hm:m∈c.2.1) (hx:ixL N m=none):zaW C N A=false:=by
 unfold zaW;rw [h];simp only [ho,List.getElem?_eq_getElem]
 have:((A[own].2.filterMap (scC C)).all fun c=>c.2.1.all (inL N))=false:=by
  rw [List.all_eq_false]
  obtain ⟨s,hs,bk⟩:=(hL c).1 hc
  refine ⟨c,List.mem_filterMap.2 ⟨s,hs,bk⟩,?_⟩
  rw [Bool.not_eq_true,List.all_eq_false]
  exact ⟨m,hm,by rw [zjQ hx];simp⟩
 rw [this,Bool.and_false,Bool.false_and]
theorem zCV (hL:zcO C vs L) (x:Bs):inL (alS L) x=inL (alS (vs.filterMap (scC C))) x:=by
 rw [Bool.eq_iff_iff]
 unfold inL alS
 simp only [List.any_eq_true,List.mem_flatMap,List.mem_filterMap]
 constructor
 ·rintro ⟨y,⟨c,hc,hy⟩,e⟩
  obtain ⟨s,hs,bk⟩:=(hL c).1 hc
  exact ⟨y,⟨c,⟨s,hs,bk⟩,hy⟩,e⟩
 rintro ⟨y,⟨c,⟨s,hs,bk⟩,hy⟩,e⟩
 exact ⟨y,⟨c,(hL c).2 ⟨s,hs,bk⟩,hy⟩,e⟩
theorem zCW (h:ixL N zM=some own) (ho:own<A.length) (hf:zb3 C A[own].2=true) {L:List Cl} (hL:zcO C A[own].2 L) (hm:∀ c∈L,∀ m∈c.2.1,inL N m=true) (hn:N.Nodup) {al:List Bool} (ha:okA N own (alS L) al):zaW C N A = !al.contains false:=by
 obtain ⟨ib,On⟩:=zdg h
 unfold zaW;rw [h];simp only [ho,List.getElem?_eq_getElem]
 have h1:((A[own].2.filterMap (scC C)).all fun c=>c.2.1.all (inL N))=true:=by
  rw [List.all_eq_true]
  intro c hc
  obtain ⟨s,hs,bk⟩:=List.mem_filterMap.1 hc
  rw [List.all_eq_true]
  exact fun m ug=>hm c ((hL c).2 ⟨s,hs,bk⟩) m ug
 rw [hf,h1,Bool.true_and,Bool.true_and]
 rw [Bool.eq_iff_iff,List.all_eq_true,Bool.not_eq_true',List.contains_eq_mem,decide_eq_false_iff_not]
 have key:∀ i (h1:i<al.length) (h2:i<N.length),al[i]=(N[i]==zM || inL (alS (A[own].2.filterMap (scC C))) N[i]):=by
  intro i h1 h2
  rw [ha.2 i h1 h2,zCV hL]
  congr 1
  by_cases e:i=own
  ·subst e;rw [On];simp
  have:(N[i]==zM)=false:=by
   rw [beq_eq_false_iff_ne]
   intro e2
   rw [<- On] at e2
   exact e ((List.getElem_inj hn).1 e2)
  rw [this];simp [e]
 constructor
 ·intro hx hm
  obtain ⟨i,hi,e⟩:=List.getElem_of_mem hm
  have h2:i<N.length:=by rw [<- ha.1];exact hi
  rw [key i hi h2,hx _ (List.getElem_mem h2)] at e
  cases e
 intro hx x hm
 obtain ⟨i,hi,rfl⟩:=List.getElem_of_mem hm
 have h2:i<al.length:=by rw [ha.1];exact hi
 rw [<- key i h2 hi]
 cases hq:al[i]
 ·exact absurd (hq ▸ List.getElem_mem h2) hx
 rfl
theorem zCX {c:Cl} (ds:zdh C) (h:scC C s=some c):c∈C:=by
 unfold scC at h
 obtain ⟨u,hu,rfl⟩:=Option.map_eq_some_iff.1 h
 have:=ds u (List.mem_of_find?_eq_some hu)
 have e:(za u.1,u.2.1.map za,u.2.2.map za)=u:=this
 rw [e]
 exact List.mem_of_find?_eq_some hu
theorem zCY (g:Nat) (T:List Ty) (C:List Cl) (A:List Atr) (N:List (Bs)) (v:Value) (q0:Option Nat) (w:World) (h:ic w g T C) (ds:zdh C) (aF:C.length<=1024) (hA:zaB w v A) (J5:zab w (.map q0) N) (kk:N.length=A.length) (bR:N.Nodup)
  (hl:A.length<=1000000) (hv:∀ a∈A,a.2.length<=1000000/\∀ s∈a.2,s.length<=140737488355328) (cT:∀ c∈C,c.2.1.length<=1000000/\c.2.2.length<=1000000) (hs:∀ c∈C,(∀ s∈c.2.1,s.length<=140737488355328)/\∀ s∈c.2.2,s.length<=140737488355328) :
  Calls prog 103 #[.pointer (some ⟨g,0,none⟩),v,.agg #[.map q0]] w (BB (zaW C N A) w):=by
 have Oo:=Hy (zrt (C:=C) (N:=N) (A:=A))
 have bZ:=zkA h
 have au:Below w.heap.size w (w.alloc (.cells #[.map q0] 96)):=(Br w).alloc Lr _
 have x0:(w.alloc (.cells #[.map q0] 96)).heap[w.heap.size]?=some (.cells #[.map q0] 96 (0,0)):=heap_alloc_new w _
 obtain ⟨W1,aB⟩:=Ex (w.alloc (.cells #[.map q0] 96))
 rw [aB] at au x0
 have HP:=Hy (fun w' (hb:Below W1.heap.size W1 w') s (hs:s.length<=140737488355328)=>(show Calls prog 78 #[.pointer (some ⟨w.heap.size,0,none⟩),.string ⟨s.toArray⟩] w' (zhQ (ixL N s) w') from
  zhR w.heap.size 0 (.map q0) N s w' (zq (Ob x0 hb) 0 _ rfl) (zcf J5 (au.trans (hb.mono au.size))) hs))
 have br:=Hy aB
 obtain ⟨a,c,rfl,ae⟩:=hA
 have HM:=Hy ae
 have HV:=Hy hv
 have HO:=Hy (fun vs vv w' (hb:Below w.heap.size w w') (ht:TxR w' vv vs) (hl:vs.length<=1000000) (hs:∀ s∈vs,s.length<=140737488355328)=>zCM g T C vs vv w' (zby h hb) ds aF ht hl hs)
 obtain ⟨n,hn⟩:=Ex A.length
 have HL:=Hy hn
 have lE:=Hy kk
 have E7:=Hy bR
 have ru:=Hy cT
 have rt:=Hy hs
 have cr:=Hy au
 have bi:w.heap.size<W1.heap.size:=zi x0
 rw [hn] at hl ⊢
 have cC:=fun W=>zCP n W hl
 cases hq:ixL N zM with
 | none =>
  have fT:=Hy (show Calls prog 78 #[.pointer (some ⟨w.heap.size,0,none⟩),.string ⟨#[111,98,106,101,99,116,99,108,97,115,115]⟩] W1 (fun en w''=>en=.returned (.tuple #[.int .i64 0,.bool false])/\W1=w'') from by
   have:=HP.o W1 (Br _) zM De
   rw [hq] at this;exact this)
  have HQ:=Hy (Oo.o hq)
  clear hq h J5 ae hv hn kk bR cT hs au x0 aB cC
  go_enter func103,ntmps103
  go_wp2_with fail
  rw [br.o]
  refine fT.o.mono ?_
  rintro en w2 ⟨rfl,rfl⟩
  go_wp2
  go_ret
  exact zB HQ.o cr.o
 | some own =>
  have ab:=zg8 hq
  have iR:own<A.length:=by omega
  have s4:own<n:=by omega
  have hoi:(own:Int)<(n:Int):=by omega
  have hoi0:(0:Int)<=(own:Int):=by omega
  have fT:=Hy (show Calls prog 78 #[.pointer (some ⟨w.heap.size,0,none⟩),.string ⟨#[111,98,106,101,99,116,99,108,97,115,115]⟩] W1 (fun en w''=>en=.returned (.tuple #[.int .i64 (own:Nat),.bool true])/\W1=w'') from by
   have:=HP.o W1 (Br _) zM De
   rw [hq] at this;exact this)
  obtain ⟨g1,o1,vl,rfl,bI,aU,aP,tvl⟩:=HM.o own iR
  have dt:=HV.o _ (List.getElem_mem iR)
  have e1:=(au.cell (p:=⟨g1,_,none⟩) bI).trans aP
  have l4:=Hy (fun w' (hb:Below W1.heap.size W1 w')=>HO.o A[own].2 vl w' (au.trans (hb.mono au.size)) (zA (zA tvl au) hb) dt.1 dt.2)
  obtain ⟨va,vc,rfl,_⟩:=tvl
  obtain ⟨m,hm⟩:=Ex (A[own].2.length)
  rw [hm] at e1 l4
  have ox:=Hy (zCT (C:=C) hq iR)
  have xA:=Hy (fun L hL c hc mm ct hx=>zCU (C:=C) hq iR (L:=L) hL (c:=c) hc (m:=mm) ct hx)
  have lF:=Hy (fun hf L hL hm al ha=>zCW (C:=C) hq iR hf (L:=L) hL hm bR (al:=al) ha)
  obtain ⟨R,hR⟩:=Ex (zaW C N A)
  rw [hR] at ox xA lF ⊢
  clear Oo hq h J5 ae hv hn kk bR cT hs au x0 aB aU aP hm hR dt
  have DW:g1<W1.heap.size:=by omega
  have pC:=Hy e1
  cases hf:zb3 C A[own].2 with
  | false =>
   have J6:=Hy (fun w' (hb:Below W1.heap.size W1 w')=>(l4.o w' hb).mono (R':=fun en w''=>en=.returned (.tuple #[.slice none 0 0,.bool false])/\Below w'.heap.size w' w'') (fun en w'' h=>⟨h.1 hf,h.2.2⟩))
   have HQ:=Hy (ox.o hf)
   clear hf l4 ox xA lF
   go_enter func103,ntmps103
   go_wp2_with fail
   rw [br.o]
   refine fT.o.mono ?_
   rintro en w2 ⟨rfl,rfl⟩
   go_wp2
   go_region_held3 (fun w'=>w'.cell? ⟨g1,o1+own*2+1,none⟩=some (.slice va m vc)) (first | exact f1 | exact e1 | go_keep)
    (first | (go_at_call 138;(with_reducible refine (J6.o _ (Br W1).drew).mono ?_);rintro en w5 ⟨rfl,ai⟩;have dw:Below W1.heap.size W1 w5:=(Br W1).drew.trans ai;have f1:=(dw.cell (p:=⟨g1,_,none⟩) DW).trans pC.o))
   have bY:=Hy (cr.o.trans (dw.mono cr.o.size))
   clear ai dw f1 e1
   go_wp2
   go_ret
   exact zB HQ.o bY.o
  | true =>
   have J7:=Hy (fun w' (hb:Below W1.heap.size W1 w')=>(l4.o w' hb).mono (R':=fun en w''=>∃ ra rc L,en=.returned (.tuple #[.slice ra (List.length L) rc,.bool true])/\zai w'' (.slice ra L.length rc) L/\zcO C A[own].2 L/\L.length<=A[own].2.length/\Below w'.heap.size w' w'') (fun en w'' h=>by
    obtain ⟨v,L,e,hc,h3,h4⟩:=h.2.1 hf
    obtain ⟨ra,rc,rfl,hx⟩:=id hc
    exact ⟨ra,rc,L,e,hc,h3,h4,h.2.2⟩))
   have J8:=Hy (fun L hL hm al ha=>lF.o hf L hL hm al ha)
   have vO:A[own].2.length<=1000000:=(HV.o _ (List.getElem_mem iR)).1
   clear hf l4 ox lF
   go_enter func103,ntmps103
   go_wp2_with fail
   rw [br.o]
   refine fT.o.mono ?_
   rintro en w2 ⟨rfl,rfl⟩
   go_wp2
   go_region_held3 (fun w'=>w'.cell? ⟨g1,o1+own*2+1,none⟩=some (.slice va m vc)) (first | exact f1 | exact e1 | go_keep)
    (first | (go_at_call 138;(with_reducible refine (J7.o _ (Br W1).drew).mono ?_);rintro en w5 ⟨ra,rc,L,rfl,bG,pN,ig,ai⟩;have dw:Below W1.heap.size W1 w5:=(Br W1).drew.trans ai;have f1:=(dw.cell (p:=⟨g1,_,none⟩) DW).trans pC.o))
   have DX:Below w.heap.size w w5:=cr.o.trans (dw.mono cr.o.size)
   have EP:L.length<=1000000:=by omega
   obtain ⟨B,hB⟩:=Ex w5.heap.size
   obtain ⟨M,hM⟩:=Ex ((bls (List.replicate n false)).toArray)
   rw [hM] at cC
   have hMo:M[own]?=some (.bool false):=by rw [<- hM];simp [bls,s4]
   obtain ⟨W7,aT⟩:=Ex (w5.alloc (.cells (M.setIfInBounds own (.bool true)) 4))
   have jW:=Nb aT
   have x7:W7.heap[B]?=some (.cells (bls ((List.replicate n false).set own true)).toArray 4 (0,0)):=by
    rw [<- aT,<- hM,List.setIfInBounds_toArray,zrp,<- hB];exact heap_alloc_new w5 _
   have aS:=zCQ N own (by rw [lE.o,HL.o];exact s4)
   rw [lE.o,HL.o] at aS
   have hz15:W1.heap.size<=w5.heap.size:=dw.size
   have HW7:=Hy aT
   have iT:=Hy (An dw (An DX jW))
   have Oq:=Hy pN
   have Os:=Hy (An x7 aS)
   have JI:B<W7.heap.size:=zi x7
   have rH:=Hy hB
   obtain ⟨ra',rc',ecl,ae⟩:=bG
   injection ecl with ec1 ec2 ec3
   subst ec1 ec3
   have J2:=Hy ae
   have HLb:=Hy (show ∀ c∈L,(c.2.1.length<=1000000/\c.2.2.length<=1000000)/\(∀ s∈c.2.1,s.length<=140737488355328)/\∀ s∈c.2.2,s.length<=140737488355328 by
    intro c hc
    obtain ⟨s,_,bk⟩:=(pN c).1 hc
    have:=zCX ds bk
    exact ⟨ru.o c this,rt.o c this⟩)
   obtain ⟨nL,Fn⟩:=Ex L.length
   have J9:=Hy Fn
   rw [Fn] at EP
   rw [Fn]
   have DY:W1.heap.size<=B:=by omega
   clear ai dw f1 e1 pN ig DX x7 jW aS aT hM ae vO Fn ds ec2
   go_wp2
   rw [HW7.o]
   clear hMo cC
   have DZ:∀ wr,Below B W7 wr->Below B w5 wr:=fun wr hb=>by have:=iT.o.2.2;rw [rH.o] at this;exact this.trans hb
   have vT:=Hy DZ
   clear DZ
   go_loopw [49] (fun v wr=>∃ (k:Nat) (al:List Bool),k<=nL/\v=.int .i64 (k:Nat)/\wr.heap[B]?=some (.cells (bls al).toArray 4 (0,0))/\okA N own (alS (L.take k)) al/\(∀ j (hj:j<L.length),j<k->∀ m∈L[j].2.1,inL N m=true)/\Below B W7 wr) (fun v _=>nL - (intOf v).toNat)
   case atStart=>exact ⟨0,_,by omega,rfl,Os.o.1,Os.o.2,fun j _ h=>by omega,Br _⟩
   case round =>
    obtain ⟨k,al,hk,rfl,aG,aS,vt,hb⟩:=hrel
    obtain ⟨wo,rfl⟩:∃ wo,wo=wr:=⟨_,rfl⟩
    have Ot:B<wo.heap.size:=zi aG
    have mA:=vT.o wo hb
    by_cases aj:k<nL
    ·have bh:(k:Int)<(nL:Int):=by omega
     have aO:k<L.length:=by rw [J9.o];exact aj
     obtain ⟨g2,o2,mu,ma,rfl,cf,c0w,c1w,c2w,tu,ta,su,sa⟩:=J2.o k aO
     have vU:g2<B:=by rw [<- rH.o];exact cf
     have c0:=(mA.cell (p:=⟨g2,_,none⟩) vU).trans c0w
     have c1:=(mA.cell (p:=⟨g2,_,none⟩) vU).trans c1w
     have c2:=(mA.cell (p:=⟨g2,_,none⟩) vU).trans c2w
     have s5:=HLb.o _ (List.getElem_mem aO)
     have gS:L[k]∈L:=List.getElem_mem aO
     have eH:=zCS L k aO
     have vV:(∀ m∈L[k].2.1,inL N m=true)->∀ j (hj:j<L.length),j<k+1->∀ m∈L[j].2.1,inL N m=true:=by
      intro hx j hj fB
      by_cases e:j=k
      ·subst e;exact hx
      exact vt j hj Om
     have EW:=Hy (fun (mm:Bs) (ct:mm∈(L[k]'aO).2.1) (hx:ixL N mm=none)=>xA.o L Oq.o (L[k]'aO) gS mm ct hx)
     obtain ⟨nm,aJ⟩:=Ex (L[k].1)
     obtain ⟨MU,sW⟩:=Ex (L[k].2.1)
     obtain ⟨MA,sX⟩:=Ex (L[k].2.2)
     rw [aJ] at c0
     rw [sW] at tu s5 eH vV EW
     rw [sX] at ta s5 eH
     obtain ⟨a3,c3,rfl,tux⟩:=tu
     obtain ⟨a4,c4,rfl,tax⟩:=ta
     have HTU:=Hy tux
     have HTA:=Hy tax
     obtain ⟨n3,J'⟩:=Ex MU.length
     obtain ⟨n4,Ka⟩:=Ex MA.length
     have Kb:=Hy J'
     have Ou:=Hy Ka
     rw [J'] at c1 s5
     rw [Ka] at c2 s5
     have hn3l:=s5.1.1
     have hn4l:=s5.1.2
     have Ov:=Hy s5.2
     obtain ⟨W8,dU⟩:=Ex (wo.alloc (.cells #[.string ⟨nm.toArray⟩,.slice a3 n3 c3,.slice a4 n4 c4] 72))
     have bz:=Nb dU
     have y8:=Nw dU
     obtain ⟨i0,i1,i2⟩:=ze y8
     have pd:=Hy dU
     have HI:=Hy (An aG (An aS (An vV (An hb (An bz (An y8 eH))))))
     clear aG aS vt hb mA c0w c1w c2w s5 gS vV aJ sW sX tux tax J' Ka dU bz y8 su sa eH
     go_wp2
     rw [pd.o]
     clear i0 i1 i2 c0 c1 c2
     go_loopw [56] (fun v wz=>∃ (j:Nat) (al:List Bool),j<=n3/\v=.int .i64 (j:Nat)/\wz.heap[B]?=some (.cells (bls al).toArray 4 (0,0))/\okA N own (alS (L.take k)++MU.take j) al/\(∀ q (hq:q<MU.length),q<j->inL N MU[q]=true)/\Below B wo wz/\wz.heap[wo.heap.size]?=some (.cells #[.string ⟨nm.toArray⟩,.slice a3 n3 c3,.slice a4 n4 c4] 72 (0,0))) (fun v _=>n3 - (intOf v).toNat)
     case atStart=>exact ⟨0,al,by omega,rfl,zj HI.o.1 HI.o.2.2.2.2.1 Ot,by rw [List.take_zero,List.append_nil];exact HI.o.2.1,fun q _ h=>by omega,HI.o.2.2.2.2.1.mono (Nat.le_of_lt Ot),HI.o.2.2.2.2.2.1⟩
     case round =>
      obtain ⟨j,D4,hj,rfl,aG,aS,db,cL,hy⟩:=hrel
      have hBz:B<wr.heap.size:=zi aG
      have fX:=vT.o wr (HI.o.2.2.2.1.trans cL)
      by_cases lT:j<n3
      ·have sd:(j:Int)<(n3:Int):=by omega
       have jq:j<MU.length:=by rw [Kb.o];exact lT
       obtain ⟨g3,o3,rfl,fq,vw⟩:=HTU.o j jq
       have v0:=(fX.cell (p:=⟨g3,_,none⟩) (by show g3<B;rw [<- rH.o];exact fq)).trans vw
       have dF:MU[j]∈MU:=List.getElem_mem jq
       have l6:=Ov.o.1 _ dF
       have Fo:=EW.o _ dF
       have fh:=List.take_succ_eq_append_getElem jq
       have gL:inL N MU[j]=true->∀ q (hq:q<MU.length),q<j+1->inL N MU[q]=true:=by
        intro hx q hq Ci
        by_cases e:q=j
        ·subst e;exact hx
        exact db q hq Om
       obtain ⟨s,hs⟩:=Ex (MU[j])
       rw [hs] at v0 l6 Fo fh gL
       have k6:Below W1.heap.size W1 wr:=iT.o.1.trans (fX.mono DY)
       have mB:=HP.o wr k6 s l6
       have HJ:=Hy (An aG (An aS (An cL (An hy (An fh gL)))))
       have af:D4.length=n:=by rw [aS.1,lE.o,HL.o]
       cases hq:ixL N s with
       | none =>
        rw [hq] at mB
        have vW:=Hy (show Calls prog 78 #[.pointer (some ⟨w.heap.size,0,none⟩),.string ⟨s.toArray⟩] wr (fun en w''=>en=.returned (.tuple #[.int .i64 0,.bool false])/\wr=w'') from mB)
        have HQ:=Hy (An (Fo hq) (iT.o.2.1.trans (fX.mono Om)))
        clear hq mB aG aS db cL hy fX vw l6 Fo fh gL k6 dF hs
        go_wp2_with fail
        refine vW.o.mono ?_
        rintro en w9 ⟨rfl,rfl⟩
        go_wp2
        go_ret
        exact zB HQ.o.1 HQ.o.2
       | some i =>
        rw [hq] at mB
        have vW:=Hy (show Calls prog 78 #[.pointer (some ⟨w.heap.size,0,none⟩),.string ⟨s.toArray⟩] wr (fun en w''=>en=.returned (.tuple #[.int .i64 (i:Nat),.bool true])/\wr=w'') from mB)
        have cW:=zg8 hq
        have cz:i<n:=by rw [<- HL.o,<- lE.o];exact cW
        have hii:(i:Int)<(n:Int):=by omega
        have Kc:(0:Int)<=(i:Int):=by omega
        have vX:i<D4.length:=by rw [af];exact cz
        have b0:=zq aG i _ (by simpa using zkH D4 i vX)
        have b1:=zc aG i
        have HQ:=Hy (An (zrs E7.o aS hq) (gL (zjP hq)))
        clear hq mB aG aS db cL hy fX vw l6 Fo fh gL k6 dF hs
        go_wp2_with fail
        refine vW.o.mono ?_
        rintro en w9 ⟨rfl,rfl⟩
        go_wp2
        refine ⟨⟨j+1,D4.set i true,by omega,by go_num,?_,?_,HQ.o.2,HJ.o.2.2.1.setCell (p:=⟨B,i,none⟩) Lr _,zdc HJ.o.2.2.2.1 (by show wo.heap.size≠B;omega) _⟩,by simp [intOf];omega⟩
        ·exact zrd
        rw [HJ.o.2.2.2.2.1,<- List.append_assoc];exact HQ.o.1
      obtain rfl:j=n3:=by omega
      have D5:MU.take j=MU:=List.take_of_length_le (by rw [Kb.o];exact Nat.le_refl _)
      rw [D5] at aS
      obtain ⟨wi,rfl⟩:∃ wi,wi=wr:=⟨_,rfl⟩
      have HK:=Hy (An aG (An aS (An cL (An hy (HI.o.2.2.1 (fun mm ct=>by
       obtain ⟨q,hq,rfl⟩:=List.getElem_of_mem ct
       exact db q hq (by rw [Kb.o] at hq;exact hq)))))))
      obtain ⟨i0,i1,i2⟩:=ze hy
      clear aG aS db cL hy fX D5
      go_wp2
      clear i0 i1 i2
      have hBi:B<wi.heap.size:=zi HK.o.1
      go_loopw [74] (fun v wz=>∃ (j:Nat) (al:List Bool),j<=n4/\v=.int .i64 (j:Nat)/\wz.heap[B]?=some (.cells (bls al).toArray 4 (0,0))/\okA N own (alS (L.take k)++MU++MA.take j) al/\Below B wi wz) (fun v _=>n4 - (intOf v).toNat)
      case atStart=>exact ⟨0,D4,by omega,rfl,HK.o.1,by rw [List.take_zero,List.append_nil];exact HK.o.2.1,Br _⟩
      case round =>
       obtain ⟨j2,xN,iG,rfl,aG,aS,cL⟩:=hrel
       have hBz:B<wr.heap.size:=zi aG
       have fX:=vT.o wr ((HI.o.2.2.2.1.trans HK.o.2.2.1).trans cL)
       by_cases Kd:j2<n4
       ·have sd:(j2:Int)<(n4:Int):=by omega
        have jq:j2<MA.length:=by rw [Ou.o];exact Kd
        obtain ⟨g3,o3,rfl,fq,vw⟩:=HTA.o j2 jq
        have v0:=(fX.cell (p:=⟨g3,_,none⟩) (by show g3<B;rw [<- rH.o];exact fq)).trans vw
        have dF:MA[j2]∈MA:=List.getElem_mem jq
        have l6:=Ov.o.2 _ dF
        have fh:=List.take_succ_eq_append_getElem jq
        obtain ⟨s,hs⟩:=Ex (MA[j2])
        rw [hs] at v0 l6 fh
        have k6:Below W1.heap.size W1 wr:=iT.o.1.trans (fX.mono DY)
        have mB:=HP.o wr k6 s l6
        have HJ:=Hy (An aG (An aS (An cL fh)))
        have af:xN.length=n:=by rw [aS.1,lE.o,HL.o]
        cases hq:ixL N s with
        | none =>
         rw [hq] at mB
         have vW:=Hy (show Calls prog 78 #[.pointer (some ⟨w.heap.size,0,none⟩),.string ⟨s.toArray⟩] wr (fun en w''=>en=.returned (.tuple #[.int .i64 0,.bool false])/\wr=w'') from mB)
         have HQ:=Hy (zCR aS hq)
         clear hq mB aG aS cL fX vw l6 fh k6 dF hs
         go_wp2_with fail
         refine vW.o.mono ?_
         rintro en w9 ⟨rfl,rfl⟩
         go_wp2
         refine ⟨⟨j2+1,xN,by omega,by go_num,HJ.o.1,?_,HJ.o.2.2.1⟩,by simp [intOf];omega⟩
         rw [HJ.o.2.2.2,<- List.append_assoc];exact HQ.o
        | some i =>
         rw [hq] at mB
         have vW:=Hy (show Calls prog 78 #[.pointer (some ⟨w.heap.size,0,none⟩),.string ⟨s.toArray⟩] wr (fun en w''=>en=.returned (.tuple #[.int .i64 (i:Nat),.bool true])/\wr=w'') from mB)
         have cW:=zg8 hq
         have cz:i<n:=by rw [<- HL.o,<- lE.o];exact cW
         have hii:(i:Int)<(n:Int):=by omega
         have Kc:(0:Int)<=(i:Int):=by omega
         have vX:i<xN.length:=by rw [af];exact cz
         have b0:=zq aG i _ (by simpa using zkH xN i vX)
         have b1:=zc aG i
         have HQ:=Hy (zrs E7.o aS hq)
         clear hq mB aG aS cL fX vw l6 fh k6 dF hs
         go_wp2_with fail
         refine vW.o.mono ?_
         rintro en w9 ⟨rfl,rfl⟩
         go_wp2
         refine ⟨⟨j2+1,xN.set i true,by omega,by go_num,?_,?_,HJ.o.2.2.1.setCell (p:=⟨B,i,none⟩) Lr _⟩,by simp [intOf];omega⟩
         ·exact zrd
         rw [HJ.o.2.2.2,<- List.append_assoc];exact HQ.o
       obtain rfl:j2=n4:=by omega
       have D5:MA.take j2=MA:=List.take_of_length_le (by rw [Ou.o];exact Nat.le_refl _)
       rw [D5] at aS
       have HZ:=Hy (An aG (An aS ((HI.o.2.2.2.1.trans HK.o.2.2.1).trans cL)))
       clear aG aS cL fX D5
       go_wp2
       refine ⟨⟨k+1,xN,by omega,by go_num,HZ.o.1,?_,HK.o.2.2.2.2,HZ.o.2.2⟩,by simp [intOf];omega⟩
       rw [HI.o.2.2.2.2.2.2]
       exact HZ.o.2.1
    obtain rfl:k=nL:=by omega
    have Ow:L.take k=L:=List.take_of_length_le (by rw [J9.o];exact Nat.le_refl _)
    rw [Ow] at aS
    have af:al.length=n:=by rw [aS.1,lE.o,HL.o]
    have Ox:=J8.o L Oq.o (fun c hc m hm=>by
     obtain ⟨i,hi,rfl⟩:=List.getElem_of_mem hc
     exact vt i hi (by rw [J9.o] at hi;exact hi) m hm) al aS
    have hC:=zCO al B n _ wo aG (by rw [af];exact hl)
    rw [af] at hC
    have HC:=Hy hC
    have HQ:=Hy (An Ox (iT.o.2.1.trans (mA.mono Om)))
    obtain ⟨bq,aX⟩:=Ex (al.contains false)
    rw [aX] at HC HQ
    clear aG aS vt hb mA Ow hC Ox aX
    go_wp2_with fail
    refine HC.o.mono ?_
    rintro en w9 ⟨rfl,hw⟩
    obtain rfl:=hw.symm
    go_wp2
    go_ret
    exact zB HQ.o.1 HQ.o.2
def zaP (T:List Ty) (C:List Cl) (A:List Atr):Nat :=
 if zaC T A=false then 17 else if (A.any fun a=>a.2.length==0)=true then 19 else if zbM (A.map (tyG T)) A=false then 21 else
 if ¬ ((A.map (tyG T)).map (·.1)).Nodup then 20 else if (nmG (A.map (tyG T)) A).any zan=true then 20 else
 if tmB (A.map (tyG T)) (nmG (A.map (tyG T)) A)=true then 19 else if zaW C ((A.map (tyG T)).map (·.1)) A=false then 65 else 0
theorem zru {T:List Ty} (h:zaC T A=true):(A.map (tyG T)).map (·.1)=A.map fun a=>za a.1:=by
 rw [List.map_map]
 apply List.map_congr_left
 intro a ha
 have:=List.all_eq_true.1 h a ha
 obtain ⟨t,ht⟩:=Option.isSome_iff_exists.1 this
 simp only [Function.comp,tyG,ht,Option.getD_some]
 exact zx2 ht
theorem zCZ (h:l∈nmG TL A):∃ t,∃ a∈A,l=nmV t a:=by
 unfold nmG at h
 obtain ⟨i,hi,rfl⟩:=List.getElem_of_mem h
 simp at hi
 exact ⟨TL[i],A[i],List.getElem_mem _,by simp⟩
theorem zC0 (g:Nat) (T:List Ty) (C:List Cl) (A:List Atr) (dn:ByteArray) (v:Value) (w:World) (h:ic w g T C) (s8:zdD T) (s9:zdh C) (jU:T.length<=1024) (E5:C.length<=1024) (hA:zaB w v A)
  (hl:A.length<=1000000) (hv:∀ a∈A,a.1.length<=140737488355328/\a.2.length<=1000000/\∀ s∈a.2,s.length<=140737488355328) (cT:∀ c∈C,c.2.1.length<=1000000/\c.2.2.length<=1000000) (hs:∀ c∈C,(∀ s∈c.2.1,s.length<=140737488355328)/\∀ s∈c.2.2,s.length<=140737488355328) (he:zD w) :
  Calls prog 56 #[.pointer (some ⟨g,0,none⟩),.agg #[.string dn,v]] w (ScI (zaP T C A:Nat) w):=by
 obtain ⟨R,hR⟩:=Ex (zaP T C A)
 have xO:=hR
 rw [hR]
 unfold zaP at xO
 obtain ⟨TL,iP⟩:=Ex (A.map (tyG T))
 rw [iP] at xO
 have jl:TL.length=A.length:=by rw [<- iP];simp
 obtain ⟨G,hG⟩:=Ex (nmG TL A)
 rw [hG] at xO
 have Fl:G.length=A.length:=by rw [<- hG];unfold nmG;simp;omega
 obtain ⟨N,hN⟩:=Ex (TL.map (·.1))
 rw [hN] at xO
 have kk:N.length=A.length:=by rw [<- hN];simpa using jl
 have aE:∀ wb,Below w.heap.size w (w.alloc wb):=fun wb=>(Br w).alloc Lr _
 obtain ⟨a,c,rfl,_⟩:=id hA
 obtain ⟨W1,aB⟩:=Ex (w.alloc (.cells #[.string dn,.slice a A.length c] 39))
 have au:Below w.heap.size w W1:=by rw [<- aB];exact aE _
 have x1:=Nw aB
 have bi:w.heap.size<W1.heap.size:=zi x1
 have fF:=Hy (zCj g T C A _ W1 (zby h au) s8 jU (zbL hA au) hl (fun a ha=>(hv a ha).1))
 have xI:=Hy (fun w' (hb:Below W1.heap.size W1 w')=>zCC A _ w' (zbL hA (au.trans (hb.mono au.size))) hl)
 have mj:=Hy (fun tv w' (hb:Below W1.heap.size W1 w') (ht:zL w' tv TL)=>zCp TL A tv _ w' ht (zbL hA (au.trans (hb.mono au.size))) jl hl (fun a ha=>(hv a ha).2.1) (zax he (au.trans (hb.mono au.size))))
 have HDu:=Hy (fun gv w' (hg:zcN w' gv G)=>zCA G gv w' hg Om (fun l Oy=>by
  rw [<- hG] at Oy
  obtain ⟨t,a,ha,rfl⟩:=zCZ Oy
  refine ⟨by unfold nmV;rw [List.length_map];exact (hv a ha).2.1,fun s oy=>?_⟩
  obtain ⟨u,_,rfl⟩:=List.mem_map.1 oy
  have:=zzV t.2.1 u
  omega))
 have sN:=Hy (fun tv gv w' (ht:zL w' tv TL) (hg:zcN w' gv G)=>zCD TL G tv gv w' ht hg Om Om)
 have Oz:=Hy (fun q w' (hb:Below W1.heap.size W1 w') (hq:zab w' (.map q) N) (bR:N.Nodup)=>zCY g T C A N _ q w' (zby h (au.trans (hb.mono au.size))) s9 E5 (zbL hA (au.trans (hb.mono au.size))) hq kk bR hl (fun a ha=>(hv a ha).2) cT hs)
 have HX:=Hy (An au x1)
 have br:=Hy aB
 have Ke:=Hy xO
 obtain ⟨n,hn⟩:=Ex A.length
 rw [hn] at fF xI mj Oz x1
 have HXc:=Hy (zq x1 1 (.slice a n c) rfl)
 have OA:N.length<=1000000/\TL.length<=1000000:=by omega
 have OB:=Hy (fun tv w' (af:zaC T A=true) (ht:zL w' tv TL)=>(show Calls prog 99 #[tv] w' (zhZ N w') by
  rw [<- hN]
  refine zCu TL tv w' ht Om (fun t ht'=>?_)
  have h2:t.1∈TL.map (·.1):=List.mem_map.2 ⟨t,ht',rfl⟩
  rw [<- iP,zru af] at h2
  obtain ⟨a,ha,e⟩:=List.mem_map.1 h2
  rw [<- e]
  simpa [za] using (hv a ha).1))
 rw [hn] at aB
 have br:=Hy aB
 have Kf:=Hy iP
 have HGe:=Hy hG
 clear aE au x1 aB hA hl hv cT hs he h s8 s9 jU E5 hR xO iP jl hG Fl hN kk
 have jO:=Hy hn
 rw [hn]
 clear hn
 cases dA:zaC T A with
 | false =>
  have Kg:=Hy (fF.o.mono (R':=fun en w''=>en=.returned (.tuple #[.slice none 0 0,.bool false])/\Below W1.heap.size W1 w'') (fun en w'' h=>⟨h.1 dA,h.2.2⟩))
  have H:=Hy (Ke.o.symm.trans (if_pos dA))
  clear dA
  go_enter func56,ntmps56
  go_wp2_with fail
  rw [br.o]
  refine Kg.o.mono ?_
  rintro en w2 ⟨rfl,hb⟩
  have HB:=Hy (HX.o.1.trans (hb.mono HX.o.1.size))
  clear hb
  go_wp2
  go_ret
  exact zaV (by rw [H.o];rfl) HB.o
 | true =>
  have Kh:=Hy (fF.o.mono (R':=fun en w''=>∃ ta tc,en=.returned (.tuple #[.slice ta n tc,.bool true])/\zL w'' (.slice ta n tc) TL/\Below W1.heap.size W1 w'') (fun en w'' h=>by
   obtain ⟨ta,tc,e,ht⟩:=h.2.1 dA
   rw [jO.o] at e ht
   exact ⟨ta,tc,e,by rw [<- Kf.o];exact ht,h.2.2⟩))
  have D6:=Hy (fun tv w' ht=>OB.o tv w' dA ht)
  have fY:=Ke.o
  rw [if_neg (by rw [dA];simp)] at fY
  have xE:=Hy fY
  clear dA fY Ke OB
  go_enter func56,ntmps56
  go_wp2_with fail
  rw [br.o]
  refine Kh.o.mono ?_
  rintro en w2 ⟨ta,tc,rfl,wG,ak⟩
  have x2:=(ak.cell (p:=⟨w.heap.size,1,none⟩) bi).trans HXc.o
  have H2:=Hy (An wG ak)
  have ce:w.heap.size<w2.heap.size:=Nat.lt_of_lt_of_le bi ak.size
  clear wG ak
  have D7:=Hy (xI.o w2 H2.o.2)
  obtain ⟨q1,gj⟩:=Ex (A.any fun a=>a.2.length==0)
  rw [gj] at D7 xE
  clear gj
  go_wp2_with fail
  refine D7.o.mono ?_
  rintro en w3 ⟨rfl,hb⟩
  have x3:=(hb.cell (p:=⟨w.heap.size,1,none⟩) ce).trans x2
  have H3:=Hy (An (zbc H2.o.1 hb) (H2.o.2.trans (hb.mono H2.o.2.size)))
  have jD:w.heap.size<w3.heap.size:=Nat.lt_of_lt_of_le ce hb.size
  clear hb x2
  cases q1 with
  | true =>
   have H:=Hy (xE.o.symm.trans (if_pos rfl))
   have HB:=Hy (HX.o.1.trans (H3.o.2.mono HX.o.1.size))
   clear x3
   go_wp2
   go_ret
   exact zaV (by rw [H.o];rfl) HB.o
  | false =>
  have fY:=xE.o
  rw [if_neg Sm] at fY
  have gG:=Hy fY
  clear fY
  cases eC:zbM TL A with
  | false =>
   have Ki:=Hy ((mj.o _ w3 H3.o.2 H3.o.1).mono (R':=fun en w''=>en=.returned (.tuple #[.slice none 0 0,.bool false])/\Below w3.heap.size w3 w'') (fun en w'' h=>⟨h.1 eC,h.2.2⟩))
   have H:=Hy (gG.o.symm.trans (if_pos eC))
   clear eC
   go_wp2_with fail
   refine Ki.o.mono ?_
   rintro en w4 ⟨rfl,hb⟩
   have HB:=Hy (HX.o.1.trans ((H3.o.2.trans (hb.mono H3.o.2.size)).mono HX.o.1.size))
   clear hb x3
   go_wp2
   go_ret
   exact zaV (by rw [H.o];rfl) HB.o
  | true =>
  have Kj:=Hy ((mj.o _ w3 H3.o.2 H3.o.1).mono (R':=fun en w''=>∃ ga gn gc,en=.returned (.tuple #[.slice ga gn gc,.bool true])/\zcN w'' (.slice ga gn gc) G/\Below w3.heap.size w3 w'') (fun en w'' h=>by
   obtain ⟨v,e,hg⟩:=h.2.1 eC
   rw [HGe.o] at hg
   obtain ⟨ga,gc,rfl,hx⟩:=id hg
   exact ⟨ga,_,gc,e,hg,h.2.2⟩))
  have fY:=gG.o
  rw [if_neg (by rw [eC];simp)] at fY
  have Dl:=Hy fY
  clear fY eC
  go_wp2_with fail
  refine Kj.o.mono ?_
  rintro en w4 ⟨ga,gn,gc,rfl,wQ,hb⟩
  have x4:=(hb.cell (p:=⟨w.heap.size,1,none⟩) jD).trans x3
  have H4:=Hy (An (zbc H3.o.1 hb) (An (H3.o.2.trans (hb.mono H3.o.2.size)) wQ))
  have Hw:w.heap.size<w4.heap.size:=Nat.lt_of_lt_of_le jD hb.size
  clear hb x3 wQ
  by_cases bR:N.Nodup
  ·have vZ:=Hy ((D6.o _ w4 H4.o.1).mono (R':=fun en w''=>∃ q,en=.returned (.tuple #[.agg #[.map q],.bool true])/\zab w'' (.map q) N/\Below w4.heap.size w4 w'') (fun en w'' h=>by
    obtain ⟨mv,e,hm⟩:=h.2.1 bR
    obtain ⟨q,rfl⟩:=zrg hm
    exact ⟨q,e,hm,h.2.2⟩))
   have fY:=Dl.o
   rw [if_neg (fun h=>h bR)] at fY
   have xG:=Hy fY
   have JJ:=Hy bR
   clear fY bR
   go_wp2_with fail
   refine vZ.o.mono ?_
   rintro en w5 ⟨q,rfl,mR,hb⟩
   have x5:=(hb.cell (p:=⟨w.heap.size,1,none⟩) Hw).trans x4
   have ql:w.heap.size<w5.heap.size:=Nat.lt_of_lt_of_le Hw hb.size
   obtain ⟨W6,iY⟩:=Ex (w5.alloc (.cells #[.map q] 96))
   have cR:=Nb iY
   have y6:=Nw iY
   have rI:=hb.trans (cR.mono hb.size)
   have x6:=(cR.cell (p:=⟨w.heap.size,1,none⟩) ql).trans x5
   have HW6:=Hy iY
   have H6:=Hy (An (zbc H4.o.1 rI) (An (H4.o.2.1.trans (rI.mono H4.o.2.1.size)) (An (zre H4.o.2.2 rI) (An (zcf mR cR) y6))))
   have E9:w.heap.size<W6.heap.size:=Nat.lt_of_lt_of_le ql cR.size
   have D8:w5.heap.size<W6.heap.size:=zi y6
   clear hb x4 mR cR iY rI y6
   have D9:=Hy (HDu.o _ W6 H6.o.2.2.1)
   obtain ⟨q2,dG⟩:=Ex (G.any zan)
   rw [dG] at D9 xG
   clear dG
   go_wp2_with fail
   rw [HW6.o]
   clear x5
   refine D9.o.mono ?_
   rintro en w7 ⟨rfl,hb⟩
   have x7:=(hb.cell (p:=⟨w.heap.size,1,none⟩) E9).trans x6
   have y7:=zq (zj H6.o.2.2.2.2 hb D8) 0 (.map q) rfl
   have H7:=Hy (An (zbc H6.o.1 hb) (An (H6.o.2.1.trans (hb.mono H6.o.2.1.size)) (An (zre H6.o.2.2.1 hb) (zcf H6.o.2.2.2.1 hb))))
   have Dn:w.heap.size<w7.heap.size:=Nat.lt_of_lt_of_le E9 hb.size
   have Kk:w5.heap.size<w7.heap.size:=Nat.lt_of_lt_of_le D8 hb.size
   clear hb x6
   cases q2 with
   | true =>
    have H:=Hy (xG.o.symm.trans (if_pos rfl))
    have HB:=Hy (HX.o.1.trans (H7.o.2.1.mono HX.o.1.size))
    clear x7 y7
    go_wp2
    go_ret
    exact zaV (by rw [H.o];rfl) HB.o
   | false =>
   have fY:=xG.o
   rw [if_neg Sm] at fY
   have Ea:=Hy (sN.o _ _ w7 H7.o.1 H7.o.2.2.1)
   obtain ⟨q3,mS⟩:=Ex (tmB TL G)
   rw [mS] at Ea fY
   have q9:=Hy fY
   clear mS fY
   go_wp2_with fail
   refine Ea.o.mono ?_
   rintro en w8 ⟨rfl,hb⟩
   have x8:=(hb.cell (p:=⟨w.heap.size,1,none⟩) Dn).trans x7
   have y8:=(hb.cell (p:=⟨w5.heap.size,0,none⟩) Kk).trans y7
   have H8:=Hy (An (H7.o.2.1.trans (hb.mono H7.o.2.1.size)) (zcf H7.o.2.2.2 hb))
   clear hb x7 y7
   cases q3 with
   | true =>
    have H:=Hy (q9.o.symm.trans (if_pos rfl))
    have HB:=Hy (HX.o.1.trans (H8.o.1.mono HX.o.1.size))
    clear x8 y8
    go_wp2
    go_ret
    exact zaV (by rw [H.o];rfl) HB.o
   | false =>
   have fY:=q9.o
   rw [if_neg Sm] at fY
   have Eb:=Hy (Oz.o q w8 H8.o.1 H8.o.2 JJ.o)
   obtain ⟨q4,xj⟩:=Ex (zaW C N A)
   rw [xj] at Eb fY
   have OC:=Hy fY
   clear xj fY
   go_wp2_with fail
   refine Eb.o.mono ?_
   rintro en w9 ⟨rfl,hb⟩
   have HB:=Hy (HX.o.1.trans ((H8.o.1.trans (hb.mono H8.o.1.size)).mono HX.o.1.size))
   clear hb x8 y8
   cases q4 with
   | false =>
    have H:=Hy (OC.o.symm.trans (if_pos rfl))
    go_wp2
    go_ret
    exact zaV (by rw [H.o];rfl) HB.o
   | true =>
    have H:=Hy (OC.o.symm.trans (if_neg Sm))
    go_wp2
    go_ret
    exact zaV (by rw [H.o];rfl) HB.o
  have vZ:=Hy ((D6.o _ w4 H4.o.1).mono (R':=fun en w''=>en=.returned (.tuple #[.agg #[.map none],.bool false])/\Below w4.heap.size w4 w'') (fun en w'' h=>⟨h.1 bR,h.2.2⟩))
  have H:=Hy (Dl.o.symm.trans (if_pos bR))
  clear bR
  go_wp2_with fail
  refine vZ.o.mono ?_
  rintro en w5 ⟨rfl,hb⟩
  have aq:=HX.o.1.trans ((H4.o.2.1.trans (hb.mono H4.o.2.1.size)).mono HX.o.1.size)
  have HB:=Hy (aq.alloc aq.size (.cells #[.map none] 96))
  clear hb aq x4
  go_wp2
  go_ret
  exact zaV (by rw [H.o];rfl) HB.o
end Go.Proofs.YtijglbolppkefaaGreatDoor
