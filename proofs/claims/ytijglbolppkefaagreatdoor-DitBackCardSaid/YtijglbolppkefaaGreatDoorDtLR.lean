/- The tree behind an entry put. -/
import Derived.Test.YtijglbolppkefaaGreatDoorDtDI
import Derived.Test.YtijglbolppkefaaGreatDoorDtK
set_option linter.unusedVariables false
set_option linter.unusedSimpArgs false
set_option maxHeartbeats 25600000
set_option maxRecDepth 100000
namespace Go.Proofs.YtijglbolppkefaaGreatDoor
open Go.Proofs.Tryz
open Go Go.RowKit Go.Proofs.BerK Go.Proofs.MemK Go.Proofs.UtfK Go.Maps Go.WideMaps
variable {L : List Ent} {e : Ent} {B bb c eb g k n7 nb : Nat} {w w' w6 w7 w8 : World} {F : Bs -> Value} {f fe : Bs -> Option Value} {dn p s : Bs} {S : Nat -> Prop} {KF : Bs -> List Av} {na sv : Value} {A : List Atr} {en : Ending}
theorem zmB {p:Prop} (h:p:=by
 have BO:zX L (dn,A)=zF (clE (dn,A)) L:=by unfold zX;rw [if_pos cF]
 rw [<- BP.o,cF,BO]
 obtain ⟨a1,a2,a3,a4,a5,a6,a7,a8,a9⟩:=du.o
 exact zub l4.o.2.2 a2 HG.o ⟨a6,a7,a8,a9⟩ dX.o.1 a3 a4 a5 a1 fT.o oI HQ.o H6.o.2.1 H6.o.1 H7.o.1 H7.o.2.1 H7.o.2.2 Ez.o):p:=h
theorem zmC {p:Prop} (h:p:=by
 intro k hk
 rcases hk with e | e | ⟨q,e⟩
 ·exact .inl (.inl e)
 ·exact .inl (.inr (.inl e))
 rcases k4 q k e with h | h
 ·exact .inl (.inr (.inr ⟨q,h⟩))
 exact .inr (Nat.le_trans aW h)):p:=h
theorem zt7 (h:(zw e.1).2=false):zP L e=34:=by unfold zP;rw [if_pos h]
theorem zt8 (h:(zw e.1).2=true) (h2:zt L e.1=true):zP L e=68:=by unfold zP;rw [if_neg (by rw [h];decide),if_pos h2]
theorem zt9 (h:(zw e.1).2=true) (h2:zt L e.1=false) (h3:(zw e.1).1≠[]/\zt L (zw e.1).1=false):zP L e=32:=by unfold zP;rw [if_neg (by rw [h];decide),if_neg (by rw [h2];decide),if_pos h3]
theorem zmD (h:(zw e.1).2=true) (h2:zt L e.1=false) (h3:¬ ((zw e.1).1≠[]/\zt L (zw e.1).1=false)) (h4:zbs e≠0):zP L e=zbs e:=by unfold zP;rw [if_neg (by rw [h];decide),if_neg (by rw [h2];decide),if_neg h3,if_pos h4]
theorem zmE (h:(zw e.1).2=true) (h2:zt L e.1=false) (h3:¬ ((zw e.1).1≠[]/\zt L (zw e.1).1=false)) (h4:zbs e=0) (h5:1024<=L.length):zP L e=80:=by unfold zP;rw [if_neg (by rw [h];decide),if_neg (by rw [h2];decide),if_neg h3,if_neg Om,if_pos h5]
theorem zmF (h:(zw e.1).2=true) (h2:zt L e.1=false) (h3:¬ ((zw e.1).1≠[]/\zt L (zw e.1).1=false)) (h4:zbs e=0) (h5:¬ 1024<=L.length):zP L e=0:=by unfold zP;rw [if_neg (by rw [h];decide),if_neg (by rw [h2];decide),if_neg h3,if_neg Om,if_neg h5]
theorem zfj (h:zP L e=c) (hc:c≠0):zX L e=L:=by unfold zX;rw [if_neg Om]
theorem zgn (L:List Ent) (p:Bs):(zk L p).length<=L.length:=by unfold zk;rw [List.length_map];exact List.length_filter_le _ _
theorem zgp (h:zI w bb (zS (zk L) F) nb):nb<=L.length:=by
 have:=ztr h (L.map fun e=>(zw e.1).1) (fun s hs=>by
  unfold zS at hs
  split at hs
  ·cases hs
  rename_i aH
  cases hk:zk L s with
  | nil=>exact absurd hk aH
  | cons c K =>
   obtain ⟨e,he,_,hp⟩:=zdU (show c∈zk L s by rw [hk];simp)
   exact List.mem_map.2 ⟨e,he,by rw [hp]⟩)
 simpa using this
theorem zmG {v:Value} (h:zcx w f L) (mK:L.Pairwise (fun a b=>bfN a.1 b.1=true)) (hn:∀ x∈L,Nm x.1) (he:Nm e.1) (hv:zC w' v e.2) (hk:∀ v A,zC w v A->zC w' v A) :
  zcx w' (upF f e.1 (some (.agg #[.string ⟨e.1.toArray⟩,v]))) (zF e L):=by
 intro s
 rw [zm1 mK hn he]
 unfold upF
 by_cases hs:s=e.1
 ·rw [if_pos hs,if_pos hs]
  refine ⟨fun h=>(by cases h),fun x hx=>?_⟩
  injection hx with hx
  subst hx
  exact ⟨v,rfl,hv⟩
 rw [if_neg hs,if_neg hs]
 refine ⟨(h s).1,fun x hx=>?_⟩
 obtain ⟨u,h1,h2⟩:=(h s).2 x hx
 exact ⟨u,h1,hk _ _ h2⟩
theorem zua (h:zcx w f L) (hk:∀ v A,zC w v A->zC w' v A):zcx w' (upF f s none) (zac L s):=by
 intro t
 rw [zuC]
 unfold upF
 by_cases hs:t=s
 ·rw [if_pos hs,if_pos hs]
  exact ⟨fun _=>rfl,fun x hx=>(by cases hx)⟩
 rw [if_neg hs,if_neg hs]
 refine ⟨(h t).1,fun x hx=>?_⟩
 obtain ⟨u,h1,h2⟩:=(h t).2 x hx
 exact ⟨u,h1,hk _ _ h2⟩
theorem ziE (h:zb5 w B F KF) (hc:Chg S w w') (hs:∀ p k,(F p).ownBlock=some k->¬ S k):zb5 w' B F KF:=fun p =>
 ⟨(h p).1,zz (h p).2.1 hc (fun k hk=>hs p k hk),(h p).2.2⟩
theorem zfk (h:zb5 w B F KF) {p:Bs} (hk:(F p).ownBlock=some k) (hm:∃ es c,w.heap[k]?=some (.map es c)):False:=by
 obtain ⟨es,c,hm⟩:=hm
 rcases (h p).2.1.2 with ⟨e,_⟩ | ⟨g',cap,cur,e,_,cO,_⟩
 ·rw [e] at hk;simp [Value.ownBlock] at hk
 rw [e] at hk
 simp [Value.ownBlock] at hk
 subst hk
 rw [hm] at cO;cases cO
theorem zmH (h:zbA w k) (hb:w'.heap[k]? = w.heap[k]?):zbA w' k:=by
 rcases h with ⟨es,c,h⟩ | ⟨cs,m,h⟩
 ·exact .inl ⟨es,c,hb.trans h⟩
 exact .inr ⟨cs,m,hb.trans h⟩
theorem zeq (hc:Chg S w w') (hs:∀ k,S k->zbA w k):∀ v A,zC w v A->zC w' v A:=fun v A h=>zmf hs h w' hc
theorem zub {l:Bs}
  (dj:zU w B g sv S L) (hS:S=trS eb bb F) (hg:w.heap[g]?=some (.cells #[sv,.map (some eb),.map (some bb)] 62 (0,0))) (hB:B<=eb/\B<=bb/\eb≠bb/\B<=w.heap.size) (h1:zI w eb fe L.length) (h2:zcx w fe L) (h3:zI w bb (zS (zk L) F) nb) (h4:zb5 w B F (zk L)) (hT:TrL L)
  (dN:zw dn=(p,true)) (oI:zbY dn=(l,true)) (eC:zt L dn=false) (az:Below w.heap.size w w6) (cP:zC w6 na (clA A)) (eu:zI w7 eb (upF fe dn (some (.agg #[.string ⟨dn.toArray⟩,na]))) n7) (eY:zdS fe dn L.length n7) (dW:w6.mapTurned w7 eb)
  (hh:zms B bb F (zk L) p l dn w7 en w8):zbT 0 B g sv S (zF (clE (dn,A)) L) w (.returned (.int .i64 (0:Nat))) w8:=by
 have gh:=zap dj
 subst hS
 obtain ⟨_,F',nb',i,hi,kI,oB,k1,k2,k3,k4⟩:=hh
 have aJ:Nm dn:=ziS (by rw [dN])
 have hK:upK (zk L) p ((zk L p).take i++(l,dn) :: (zk L p).drop i)=zk (zF (clE (dn,A)) L):=by
  funext q
  unfold upK
  by_cases hq:q=p
  ·rw [if_pos hq,hq]
   have Hg:zbj (clE (dn,A))=(l,dn):=by unfold zbj clE;rw [oI]
   rw [zuw (e:=clE (dn,A)) hT aJ (zda eC) dN i hi (by rw [Hg];exact kI) (by rw [Hg];exact oB),Hg]
  rw [if_neg hq,zmY (e:=clE (dn,A)) hT (zda eC) (fun e=>hq (by have e:zw dn=(q,true):=e;rw [dN] at e;exact (Prod.mk.inj e).1.symm))]
 rw [hK] at k1 k2
 have fS:=zbi dW
 have eE:Chg (trS eb bb F) w w7:=(Chg.ofBelow az).trans fS (fun k _ e=>.inl e)
 have i5:Chg (trS eb bb F) w w8:=eE.trans k3 (fun k _ e=>by rcases e with e | e;exact .inr (.inl e);exact .inr (.inr ⟨p,e.symm⟩))
 have z6:=az.size
 have Hh:Chg (trS eb bb F) w6 w8:=(fS.mono (fun k _ e=>.inl e)).trans k3 (fun k _ e=>by rcases e with e | e;exact .inr (.inl e);exact .inr (.inr ⟨p,e.symm⟩))
 have gz:¬ (eb=bb\/some eb=(F p).ownBlock):=by
  rintro (e | e)
  ·exact hB.2.2.1 e
  exact zfk h4 e.symm (zaY h1)
 have mI:(fe dn).isSome=false:=by rw [zep h2,eC]
 have hn:n7=(zF (clE (dn,A)) L).length:=by
  rw [zfu hT.up,if_neg (by rw [show zt L (clE (dn,A)).1=false from eC];decide)]
  unfold zdS at eY
  rw [eY,mI];rfl
 have aW:w.heap.size<=w7.heap.size:=eE.size
 refine ⟨rfl,trS eb bb F',⟨eb,bb,_,F',nb',rfl,zV hg i5 (fun hS=>(gh g hS).2.2.2 rfl),⟨hB.1,hB.2.1,hB.2.2.1,Nat.le_trans hB.2.2.2 i5.size⟩,hn ▸ zcR eu k3 gz,?_,k1,k2⟩,i5,?_⟩
 ·refine zmG (w:=w) (e:=clE (dn,A)) h2 hT.up hT.nm aJ ?_ (zeq i5 (fun k hk=>(gh k hk).1))
  exact zeq Hh (fun k hk=>zmH (gh k hk).1 (az.block k (gh k hk).2.2.1)) _ _ cP
 exact zmC
theorem zuc
  (dj:zU w B g sv S L) (hS:S=trS eb bb F) (hg:w.heap[g]?=some (.cells #[sv,.map (some eb),.map (some bb)] 62 (0,0))) (hB:B<=eb/\B<=bb/\eb≠bb/\B<=w.heap.size) (h1:zI w eb fe L.length) (h2:zcx w fe L) (h3:zI w bb (zS (zk L) F) nb) (h4:zb5 w B F (zk L)) (hT:TrL L)
  (eC:zt L dn=true) (az:Below w.heap.size w w6) (cP:zC w6 na (clA A)) (eu:zI w7 eb (upF fe dn (some (.agg #[.string ⟨dn.toArray⟩,na]))) n7) (eY:zdS fe dn L.length n7) (dW:w6.mapTurned w7 eb):zbT 0 B g sv S (zF (clE (dn,A)) L) w (.returned (.int .i64 (0:Nat))) w7:=by
 have gh:=zap dj
 subst hS
 obtain ⟨x,hx,so⟩:=zbr.1 eC
 have aJ:Nm dn:=so ▸ hT.nm x hx
 have hK:zk (zF (clE (dn,A)) L)=zk L:=by
  funext q
  exact zux (e:=clE (dn,A)) hT ⟨x,hx,so⟩ q
 have fS:=zbi dW
 have eE:Chg (trS eb bb F) w w7:=(Chg.ofBelow az).trans fS (fun k _ e=>.inl e)
 have qV:Chg (trS eb bb F) w6 w7:=fS.mono (fun k _ e=>.inl e)
 have qb:Chg (fun k=>k=eb) w w7:=(Chg.ofBelow az).trans fS (fun k _ e=>e)
 have gz:¬ bb=eb:=fun e=>hB.2.2.1 e.symm
 have mI:(fe dn).isSome=true:=by rw [zep h2,eC]
 have hn:n7=(zF (clE (dn,A)) L).length:=by
  rw [zfu hT.up,if_pos (show zt L (clE (dn,A)).1=true from eC)]
  unfold zdS at eY
  rw [eY,mI];rfl
 refine ⟨rfl,trS eb bb F,⟨eb,bb,_,F,nb,rfl,zV hg eE (fun hS=>(gh g hS).2.2.2 rfl),⟨hB.1,hB.2.1,hB.2.2.1,Nat.le_trans hB.2.2.2 eE.size⟩,hn ▸ eu,?_,hK ▸ zcR h3 qb gz,hK ▸ ziE h4 qb (fun q k hk e=>zfk h4 hk (by have e:k=eb:=e;rw [e];exact zaY h1))⟩,eE,fun k hk=>.inl hk⟩
 refine zmG (w:=w) (e:=clE (dn,A)) h2 hT.up hT.nm aJ ?_ (zeq eE (fun k hk=>(gh k hk).1))
 exact zeq qV (fun k hk=>zmH (gh k hk).1 (az.block k (gh k hk).2.2.1)) _ _ cP
theorem zud
  (dj:zU w B g sv S L) (hS:S=trS eb bb F) (hg:w.heap[g]?=some (.cells #[sv,.map (some eb),.map (some bb)] 62 (0,0))) (hB:B<=eb/\B<=bb/\eb≠bb/\B<=w.heap.size) (h1:zI w eb fe L.length) (h2:zcx w fe L) (h3:zI w bb (zS (zk L) F) nb) (h4:zb5 w B F (zk L)) (hT:TrL L)
  (dN:zw dn=(p,true)) (eC:zt L dn=true) (az:Below w.heap.size w w6) (eu:zI w7 eb (upF fe dn none) n7) (eY:ziv fe dn L.length n7) (dW:w6.mapTurned w7 eb)
  (hh:zmt B bb F (zk L) p dn w7 en w8):zbT 0 B g sv S (zac L dn) w (.returned (.int .i64 (0:Nat))) w8:=by
 have gh:=zap dj
 subst hS
 obtain ⟨_,F',nb',k1,k2,k3,k4⟩:=hh
 have hK:upK (zk L) p ((zk L p).filter fun c => !(c.2==dn))=zk (zac L dn):=by
  funext q
  unfold upK
  by_cases hq:q=p
  ·rw [if_pos hq,hq,zm2]
   congr 1
   funext c
   by_cases h:c.2=dn
   ·simp [h]
   simp [h]
  rw [if_neg hq]
  exact (zuz L (fun e=>hq (by rw [dN] at e;exact (Prod.mk.inj e).1.symm))).symm
 rw [hK] at k1 k2
 have fS:=zbi dW
 have eE:Chg (trS eb bb F) w w7:=(Chg.ofBelow az).trans fS (fun k _ e=>.inl e)
 have i5:Chg (trS eb bb F) w w8:=eE.trans k3 (fun k _ e=>by rcases e with e | e;exact .inr (.inl e);exact .inr (.inr ⟨p,e.symm⟩))
 have gz:¬ (eb=bb\/some eb=(F p).ownBlock):=by
  rintro (e | e)
  ·exact hB.2.2.1 e
  exact zfk h4 e.symm (zaY h1)
 have mI:(fe dn).isSome=true:=by rw [zep h2,eC]
 have hn:n7=(zac L dn).length:=by
  have li:=zuB hT.up eC
  unfold ziv at eY
  rw [mI,if_pos rfl] at eY
  omega
 have aW:w.heap.size<=w7.heap.size:=eE.size
 refine ⟨rfl,trS eb bb F',⟨eb,bb,_,F',nb',rfl,zV hg i5 (fun hS=>(gh g hS).2.2.2 rfl),⟨hB.1,hB.2.1,hB.2.2.1,Nat.le_trans hB.2.2.2 i5.size⟩,hn ▸ zcR eu k3 gz,zua h2 (zeq i5 (fun k hk=>(gh k hk).1)),k1,k2⟩,i5,?_⟩
 exact zmC
theorem zue (B g sb:Nat) (S:Nat->Prop) (L:List Ent) (A:List Atr) (dn:Bs) (av:Value) (w:World) (h:zU w B g (.pointer (some ⟨sb,0,none⟩)) S L) (hT:TrL L) (hl:L.length<=1024) (bk:Off S w (fun w=>ic w sb plT plC)) (he:Off S w zD) (hA:zak w av A) (hf:zcz A) (hdn:dn.length<=140737488355328) :
  Calls prog 16 #[.pointer (some ⟨g,0,none⟩),.agg #[.string ⟨dn.toArray⟩,av]] w (zbT (zP L (dn,A)) B g (.pointer (some ⟨sb,0,none⟩)) S (zX L (dn,A)) w):=by
 have dj:=id h
 obtain ⟨eb,bb,fe,F,nb,hS,hg,⟨gR,gb,aH,je⟩,h1,h2,h3,h4⟩:=h
 have zg:=zi hg
 have zeb:=zaS h1
 have hJ:¬ g=eb:=fun e=>by obtain ⟨es,c,hm⟩:=zaY h1;rw [e,hm] at hg;cases hg
 have L5:¬ g=bb:=fun e=>by obtain ⟨es,c,hm⟩:=zaY h3;rw [e,hm] at hg;cases hg
 obtain ⟨W0,aN⟩:=Ex (w.alloc (.cells #[.string ⟨dn.toArray⟩,av] 39))
 have aE:=Nb aN
 have bB:=Nw aN
 have wR:∀ w',Below w.heap.size w w'->zD w':=fun w' hb=>zax he.now hb
 have oK:=Hy (zpn dn W0 (wR W0 aE))
 have kN:=Hy (fun w' (hb:Below w.heap.size w w') s (hs:s.length<=140737488355328)=>zgd B g _ S L s w' (zeo dj hb) hs)
 have dq:=Hy (fun w' (hb:Below w.heap.size w w') r D (hn:nrD dn=some (r :: D))=>zmA g sb _ _ A dn r D av w' (zj hg hb zg) (zby bk.now hb) (zcb hA hb) hf hn (wR w' hb))
 have iJ:=Hy (fun w' (hb:Below w.heap.size w w')=>zqe A dn av w' (zcb hA hb) hf.1)
 have cD:=Hy (fun (c:Nat) (hc:zP L (dn,A)=c) (h0:c≠0) w' (hb:Below w.heap.size w w')=>show zbT (zP L (dn,A)) B g (.pointer (some ⟨sb,0,none⟩)) S (zX L (dn,A)) w (.returned (.int .i64 (c:Nat))) w' from by rw [zfj hc h0];exact ziz hc dj hb)
 obtain ⟨a,c,rfl⟩:=zdH hA
 obtain ⟨n,fs⟩:=Ex A.length
 rw [fs] at aN bB dq iJ ⊢
 obtain ⟨e0,e1⟩:=zf bB
 have zx:=zi bB
 obtain ⟨c0,c1,c2⟩:=ze (zj hg aE zg)
 have Hf:=Nat.lt_of_lt_of_le zg aE.size
 have HX:=Hy (An aE bB)
 have gD:=Hy aN
 have HG:=Hy hg
 rw [<- aN] at c0 e0 e1
 have dX:=Hy (An h1 (An hJ (An L5 zeb)))
 have du:=Hy (An hT (An hS (An h2 (An h3 (An h4 (An gR (An gb (An aH je))))))))
 have l4:=Hy (An bk (An he dj))
 obtain ⟨G,oP⟩:∃ G:Ending->World->Prop,zbT (zP L (dn,A)) B g (.pointer (some ⟨sb,0,none⟩)) S (zX L (dn,A)) w=G:=⟨_,rfl⟩
 have BP:=Hy oP
 rw [oP] at cD ⊢
 obtain ⟨⟨p,ok⟩,Hi⟩:∃ x,zw dn=x:=⟨_,rfl⟩
 rw [Hi] at oK
 have fT:=Hy Hi
 clear bk he hA hf fs aE bB aN hg hT hS h1 h2 h3 h4 gR gb aH je dj wR oP Hi hJ L5
 go_enter func16,ntmps16
 go_wp2_with fail
 rw [gD.o]
 refine oK.o.mono ?_
 rintro en w2 ⟨rfl,ak⟩
 have H2:=Hy (An ak (HX.o.1.trans (ak.mono HX.o.1.size)))
 obtain ⟨e0,e1⟩:=zf (zj HX.o.2 ak zx)
 clear ak c0 c1 c2
 cases ok with
 | false =>
  go_wp2
  exact cD.o 34 (zt7 (by rw [fT.o])) De _ H2.o.2
 | true =>
  have HH:=Hy (kN.o w2 H2.o.2 dn hdn)
  obtain ⟨q,hq⟩:=Ex (zt L dn)
  rw [hq] at HH
  have HQ:=Hy hq
  clear hq
  go_wp2_with fail
  refine HH.o.mono ?_
  rintro en w3 ⟨rfl,aK⟩
  have H3:=Hy (An (H2.o.1.trans (aK.mono H2.o.1.size)) (H2.o.2.trans (aK.mono H2.o.2.size)))
  obtain ⟨e0,e1⟩:=zf (zj HX.o.2 H3.o.1 zx)
  clear aK
  cases q with
  | true =>
   go_wp2
   exact cD.o 68 (zt8 (by rw [fT.o]) HQ.o) De _ H3.o.2
  | false =>
   obtain ⟨r,D,BQ⟩:=ziS (show (zw dn).2=true by rw [fT.o])
   obtain ⟨p2,l,pY,oI,_,D2,kJ⟩:=zcA ⟨r,D,BQ⟩
   have jr:p2=p:=by rw [fT.o] at pY;exact (Prod.mk.inj pY).1.symm
   rw [jr] at kJ
   have EA:p.length<=4096:=by
    have:=zaA kJ
    rw [this.1];exact this.2.2.2
   have EB:=Hy (fun w7 (hc:Chg (fun k=>k=eb) w w7)=>by
    obtain ⟨a1,a2,a3,a4,a5,a6,a7,a8,a9⟩:=du.o
    exact zt0 B g bb nb F (zk L) dn p l w7 ⟨_,eb,zV HG.o hc dX.o.2.1⟩ (zcR a4 hc (fun e=>a8 e.symm)) (ziE a5 hc (fun q k hk e=>zfk a5 hk (by have e:k=eb:=e;rw [e];exact zaY dX.o.1))) (Nat.le_trans a9 hc.size) (by have:=zgp a4;omega) oI (zuv a1.nm a1.up p) (by have:=zgn L p;omega) Om (l4.o.2.1 w7 (hc.mono (fun k _ e=>by rw [a2];exact .inl e))))
   have EC:=Hy (kN.o w3 H3.o.2 p Om)
   clear pY jr kJ EA kN HH
   by_cases oo:p=[]
   ·subst oo
    clear EC
    have HC:=Hy (dq.o w3 H3.o.2 r D BQ)
    obtain ⟨N,hN⟩:=Ex (zbs (dn,A))
    rw [hN] at HC
    have HN:=Hy hN
    clear hN
    go_wp2_with fail
    refine HC.o.mono ?_
    rintro en w5 ⟨rfl,ai⟩
    have H5:=Hy (An (H3.o.1.trans (ai.mono H3.o.1.size)) (H3.o.2.trans (ai.mono H3.o.2.size)))
    obtain ⟨d0,d1⟩:=zf (zj HX.o.2 H5.o.1 zx)
    obtain ⟨c0,c1,c2⟩:=ze (zj HG.o H5.o.2 zg)
    have oQ:=Nat.lt_of_lt_of_le zx H5.o.1.size
    have l3:=Nat.lt_of_lt_of_le zg H5.o.2.size
    clear ai e0 e1 HC c0 c2
    by_cases oR:N=0
    ·subst oR
     have aV:=ziw (za6 dX.o.1 (H5.o.2.block eb dX.o.2.2.2)) underlying59 3
     obtain ⟨m,hm⟩:=Ex L.length
     rw [hm] at aV
     have HM:=Hy hm
     clear hm
     by_cases ur:1024<=m
     ·have q1:(1024:Int)<=(m:Int):=by omega
      go_wp2
      exact cD.o 80 (zmE (by rw [fT.o]) HQ.o (by rw [fT.o];exact fun h=>h.1 rfl) HN.o (by have:=HM.o;omega)) De _ H5.o.2
     have q1:(m:Int)<1024:=by omega
     have q2:¬ (1024:Int)<=(m:Int):=by omega
     go_wp2
     refine wp_region_noPanic ?_
     refine wp_region_held_drew (S:=fun w'=>w'.cell? ⟨g,1,none⟩=some (.map (some eb))/\w'.cell? ⟨w.heap.size,0,none⟩=some (.string ⟨dn.toArray⟩)/\w'.cell? ⟨w.heap.size,1,none⟩=some (.slice a n c)) Kr ?_ (fun aI=>?_)
     ·exact ⟨c1,d0,d1⟩
     refine wpAnyH_take (i:=0) (v:=?vqa0) rfl Kr Kr Kr Fh (Or.inl ⟨by rfl,?yqa0⟩) As ?rqa0
     case yqa0=>(intro w' ar;(try dsimp only at ar);go_simp;with_reducible rfl)
     try simp only [Sg,Act.put,Ss]
     refine wpAnyH_take (i:=1) (v:=?vqa1) rfl Kr Kr Kr Fh (Or.inl ⟨by rfl,?yqa1⟩) As ?rqa1
     case yqa1=>(intro w' ar;(try dsimp only at ar);go_simp;with_reducible rfl)
     try simp only [Sg,Act.put,Ss]
     refine wpAnyH_take (i:=2) (v:=?vqa2) rfl Kr Kr Kr Fh (Or.inl ⟨by rfl,?yqa2⟩) As ?rqa2
     case yqa2=>(intro w' ar;(try dsimp only at ar);go_simp;with_reducible rfl)
     try simp only [Sg,Act.put,Ss]
     refine wpAnyH_take (i:=3) (v:=?vqa3) rfl Kr Kr Kr Fh (Or.inl ⟨by rfl,?yqa3⟩) As ?rqa3
     case yqa3=>(intro w' ar;(try dsimp only at ar);go_simp;with_reducible rfl)
     try simp only [Sg,Act.put,Ss]
     refine wpAnyH_take (i:=4) (v:=?vqa4) rfl Kr Kr Kr Fh (Or.inl ⟨by rfl,?yqa4⟩) As ?rqa4
     case yqa4=>(intro w' ar;(try dsimp only at ar);go_simp;with_reducible rfl)
     try simp only [Sg,Act.put,Ss]
     refine wpAnyH_take (i:=5) (v:=?vqa5) rfl Kr Kr Kr Fh (Or.inl ⟨by rfl,?yqa5⟩) As ?rqa5
     case yqa5=>(intro w' ar;(try dsimp only at ar);go_simp;with_reducible rfl)
     try simp only [Sg,Act.put,Ss]
     refine wpAnyH_take (i:=6) (v:=?vqa6) rfl Kr Kr Kr Fh (Or.inl ⟨by rfl,?yqa6⟩) As ?rqa6
     case yqa6=>(intro w' ar;(try dsimp only at ar);go_simp;with_reducible rfl)
     try simp only [Sg,Act.put,Ss]
     refine wpAnyH_ready (rs:=[7]) Kr Sm ?_
     refine AllReadyH.cons (o:=_) rfl (fun KR aM=>?cqa7) ?nqa7
     case nqa7=>exact AllReadyH.nil
     go_simp
     go_at_call 40
     with_reducible refine (iJ.o _ (by first | exact H5.o.2.drew | exact H5.o.2)).mono ?_
     rintro en w6 ⟨cv,cq,rfl,aS,oS,az⟩
     have az:Below w5.heap.size w5 w6:=(by first | exact (Br w5).drew.trans az | exact az)
     have aq:Below w.heap.size w w6:=H5.o.2.trans (az.mono H5.o.2.size)
     have i1:=(az.cell (p:=⟨g,1,none⟩) l3).trans c1
     have j0:=(az.cell (p:=⟨w.heap.size,0,none⟩) oQ).trans d0
     have j1:=(az.cell (p:=⟨w.heap.size,1,none⟩) oQ).trans d1
     have cP:zC w6 cv (clA A):=⟨cq,_,aS,oS⟩
     obtain ⟨na,nc,rfl⟩:=zh oS
     obtain ⟨N1,iI⟩:=Ex ((clA A).length)
     rw [iI] at cP ⊢
     have lp:=za6 dX.o.1 (aq.block eb dX.o.2.2.2)
     have H6:=Hy (An cP (An aq (An lp az)))
     clear aS oS cP az aq lp iI
     go_wp2_with fail
     refine aM.out _ _ ?_ (fun aI=>?_)
     ·exact ⟨i1,j0,j1⟩
     clear aM KR
     try simp only [Sg,Act.put,Ss]
     refine wpAnyH_ready (rs:=[8]) Kr Sm ?_
     refine AllReadyH.cons (o:=_) rfl (fun KR aM=>?cqa8) ?nqa8
     case nqa8=>exact AllReadyH.nil
     refine zfg rfl (.tmp 52) (.tmp 54) (.tmp 56) 59 39 rfl underlying59 eb L.length fe rfl H6.o.2.2.1 Mx dn (.agg #[.string ⟨dn.toArray⟩,.slice na N1 nc]) rfl rfl hdn ?_
     intro w7 n7 eu eY dW
     have oT:¬ w.heap.size=eb:=by have:=dX.o.2.2.2;omega
     have fS:=zbi dW
     have k1:w7.cell? ⟨g,1,none⟩=some (.map (some eb)):=by have:=fS.block g (Nat.lt_of_lt_of_le l3 H6.o.2.2.2.size) dX.o.2.1;unfold World.cell? at i1 ⊢;simp only [this];exact i1
     have k0:∀ o v,w6.cell? ⟨w.heap.size,o,none⟩=some v->w7.cell? ⟨w.heap.size,o,none⟩=some v:=fun o v hq=>by have:=fS.block w.heap.size (Nat.lt_of_lt_of_le oQ H6.o.2.2.2.size) oT;unfold World.cell? at hq ⊢;simp only [this];exact hq
     have l0:=k0 0 _ j0
     have l1:=k0 1 _ j1
     have H7:=Hy (An eu (An eY dW))
     clear eu eY dW fS k0
     refine aM.out _ _ ?_ (fun aI=>?_)
     ·exact ⟨k1,l0,l1⟩
     clear aM KR
     try simp only [Sg,Act.put,Ss]
     refine wpAnyH_done Kr ?_ _
     refine NoPanic.normal ?_
     have kL:Chg (fun k=>k=eb) w w7:=(Chg.ofBelow H6.o.2.1).trans (zbi H7.o.2.2) (fun k _ e=>e)
     have BR:=Hy (EB.o w7 kL)
     have HC7:=Hy kL
     clear kL k1
     go_wp2_with fail
     refine BR.o.mono ?_
     intro en w8 hh
     have BS:=hh.1
     subst BS
     have Ez:=Hy hh
     clear hh l0 l1
     go_wp2
     have cF:zP L (dn,A)=0:=zmF (by rw [fT.o]) HQ.o (by rw [fT.o];exact fun h=>h.1 rfl) HN.o (by have:=HM.o;omega)
     exact zmB
    have wS:((N:Int) != 0)=true:=by simp;omega
    have iI:=Hy oR
    clear oR
    go_wp2
    exact cD.o N ((zmD (by rw [fT.o]) HQ.o (by rw [fT.o];exact fun h=>h.1 rfl) (by rw [HN.o];exact iI.o)).trans HN.o) iI.o _ H5.o.2
   have HP0:=Hy oo
   obtain ⟨q2,dG⟩:=Ex (zt L p)
   rw [dG] at EC
   have oN:=Hy dG
   clear dG
   have Ey:p.isEmpty=false:=by simpa using oo
   go_wp2_with fail
   refine EC.o.mono ?_
   rintro en w4 ⟨rfl,bf⟩
   have H4:=Hy (An (H3.o.1.trans (bf.mono H3.o.1.size)) (H3.o.2.trans (bf.mono H3.o.2.size)))
   obtain ⟨e0,e1⟩:=zf (zj HX.o.2 H4.o.1 zx)
   clear bf EC
   cases q2 with
   | false =>
    go_wp2
    exact cD.o 32 (zt9 (by rw [fT.o]) HQ.o ⟨by rw [fT.o];exact HP0.o,by rw [fT.o];exact oN.o⟩) De _ H4.o.2
   | true =>
    have HC:=Hy (dq.o w4 H4.o.2 r D BQ)
    obtain ⟨N,hN⟩:=Ex (zbs (dn,A))
    rw [hN] at HC
    have HN:=Hy hN
    clear hN
    go_wp2_with fail
    refine HC.o.mono ?_
    rintro en w5 ⟨rfl,ai⟩
    have H5:=Hy (An (H4.o.1.trans (ai.mono H4.o.1.size)) (H4.o.2.trans (ai.mono H4.o.2.size)))
    obtain ⟨d0,d1⟩:=zf (zj HX.o.2 H5.o.1 zx)
    obtain ⟨c0,c1,c2⟩:=ze (zj HG.o H5.o.2 zg)
    have oQ:=Nat.lt_of_lt_of_le zx H5.o.1.size
    have l3:=Nat.lt_of_lt_of_le zg H5.o.2.size
    clear ai e0 e1 HC c0 c2
    by_cases oR:N=0
    ·subst oR
     have aV:=ziw (za6 dX.o.1 (H5.o.2.block eb dX.o.2.2.2)) underlying59 3
     obtain ⟨m,hm⟩:=Ex L.length
     rw [hm] at aV
     have HM:=Hy hm
     clear hm
     by_cases ur:1024<=m
     ·have q1:(1024:Int)<=(m:Int):=by omega
      go_wp2
      exact cD.o 80 (zmE (by rw [fT.o]) HQ.o (by rw [fT.o];exact fun h=>(by have:=h.2;rw [oN.o] at this;cases this)) HN.o (by have:=HM.o;omega)) De _ H5.o.2
     have q1:(m:Int)<1024:=by omega
     have q2:¬ (1024:Int)<=(m:Int):=by omega
     go_wp2
     refine wp_region_noPanic ?_
     refine wp_region_held_drew (S:=fun w'=>w'.cell? ⟨g,1,none⟩=some (.map (some eb))/\w'.cell? ⟨w.heap.size,0,none⟩=some (.string ⟨dn.toArray⟩)/\w'.cell? ⟨w.heap.size,1,none⟩=some (.slice a n c)) Kr ?_ (fun aI=>?_)
     ·exact ⟨c1,d0,d1⟩
     refine wpAnyH_take (i:=0) (v:=?vqb0) rfl Kr Kr Kr Fh (Or.inl ⟨by rfl,?yqb0⟩) As ?rqb0
     case yqb0=>(intro w' ar;(try dsimp only at ar);go_simp;with_reducible rfl)
     try simp only [Sg,Act.put,Ss]
     refine wpAnyH_take (i:=1) (v:=?vqb1) rfl Kr Kr Kr Fh (Or.inl ⟨by rfl,?yqb1⟩) As ?rqb1
     case yqb1=>(intro w' ar;(try dsimp only at ar);go_simp;with_reducible rfl)
     try simp only [Sg,Act.put,Ss]
     refine wpAnyH_take (i:=2) (v:=?vqb2) rfl Kr Kr Kr Fh (Or.inl ⟨by rfl,?yqb2⟩) As ?rqb2
     case yqb2=>(intro w' ar;(try dsimp only at ar);go_simp;with_reducible rfl)
     try simp only [Sg,Act.put,Ss]
     refine wpAnyH_take (i:=3) (v:=?vqb3) rfl Kr Kr Kr Fh (Or.inl ⟨by rfl,?yqb3⟩) As ?rqb3
     case yqb3=>(intro w' ar;(try dsimp only at ar);go_simp;with_reducible rfl)
     try simp only [Sg,Act.put,Ss]
     refine wpAnyH_take (i:=4) (v:=?vqb4) rfl Kr Kr Kr Fh (Or.inl ⟨by rfl,?yqb4⟩) As ?rqb4
     case yqb4=>(intro w' ar;(try dsimp only at ar);go_simp;with_reducible rfl)
     try simp only [Sg,Act.put,Ss]
     refine wpAnyH_take (i:=5) (v:=?vqb5) rfl Kr Kr Kr Fh (Or.inl ⟨by rfl,?yqb5⟩) As ?rqb5
     case yqb5=>(intro w' ar;(try dsimp only at ar);go_simp;with_reducible rfl)
     try simp only [Sg,Act.put,Ss]
     refine wpAnyH_take (i:=6) (v:=?vqb6) rfl Kr Kr Kr Fh (Or.inl ⟨by rfl,?yqb6⟩) As ?rqb6
     case yqb6=>(intro w' ar;(try dsimp only at ar);go_simp;with_reducible rfl)
     try simp only [Sg,Act.put,Ss]
     refine wpAnyH_ready (rs:=[7]) Kr Sm ?_
     refine AllReadyH.cons (o:=_) rfl (fun KR aM=>?cqb7) ?nqb7
     case nqb7=>exact AllReadyH.nil
     go_simp
     go_at_call 40
     with_reducible refine (iJ.o _ (by first | exact H5.o.2.drew | exact H5.o.2)).mono ?_
     rintro en w6 ⟨cv,cq,rfl,aS,oS,az⟩
     have az:Below w5.heap.size w5 w6:=(by first | exact (Br w5).drew.trans az | exact az)
     have aq:Below w.heap.size w w6:=H5.o.2.trans (az.mono H5.o.2.size)
     have i1:=(az.cell (p:=⟨g,1,none⟩) l3).trans c1
     have j0:=(az.cell (p:=⟨w.heap.size,0,none⟩) oQ).trans d0
     have j1:=(az.cell (p:=⟨w.heap.size,1,none⟩) oQ).trans d1
     have cP:zC w6 cv (clA A):=⟨cq,_,aS,oS⟩
     obtain ⟨na,nc,rfl⟩:=zh oS
     obtain ⟨N1,iI⟩:=Ex ((clA A).length)
     rw [iI] at cP ⊢
     have lp:=za6 dX.o.1 (aq.block eb dX.o.2.2.2)
     have H6:=Hy (An cP (An aq (An lp az)))
     clear aS oS cP az aq lp iI
     go_wp2_with fail
     refine aM.out _ _ ?_ (fun aI=>?_)
     ·exact ⟨i1,j0,j1⟩
     clear aM KR
     try simp only [Sg,Act.put,Ss]
     refine wpAnyH_ready (rs:=[8]) Kr Sm ?_
     refine AllReadyH.cons (o:=_) rfl (fun KR aM=>?cqb8) ?nqb8
     case nqb8=>exact AllReadyH.nil
     refine zfg rfl (.tmp 52) (.tmp 54) (.tmp 56) 59 39 rfl underlying59 eb L.length fe rfl H6.o.2.2.1 Mx dn (.agg #[.string ⟨dn.toArray⟩,.slice na N1 nc]) rfl rfl hdn ?_
     intro w7 n7 eu eY dW
     have oT:¬ w.heap.size=eb:=by have:=dX.o.2.2.2;omega
     have fS:=zbi dW
     have k1:w7.cell? ⟨g,1,none⟩=some (.map (some eb)):=by have:=fS.block g (Nat.lt_of_lt_of_le l3 H6.o.2.2.2.size) dX.o.2.1;unfold World.cell? at i1 ⊢;simp only [this];exact i1
     have k0:∀ o v,w6.cell? ⟨w.heap.size,o,none⟩=some v->w7.cell? ⟨w.heap.size,o,none⟩=some v:=fun o v hq=>by have:=fS.block w.heap.size (Nat.lt_of_lt_of_le oQ H6.o.2.2.2.size) oT;unfold World.cell? at hq ⊢;simp only [this];exact hq
     have l0:=k0 0 _ j0
     have l1:=k0 1 _ j1
     have H7:=Hy (An eu (An eY dW))
     clear eu eY dW fS k0
     refine aM.out _ _ ?_ (fun aI=>?_)
     ·exact ⟨k1,l0,l1⟩
     clear aM KR
     try simp only [Sg,Act.put,Ss]
     refine wpAnyH_done Kr ?_ _
     refine NoPanic.normal ?_
     have kL:Chg (fun k=>k=eb) w w7:=(Chg.ofBelow H6.o.2.1).trans (zbi H7.o.2.2) (fun k _ e=>e)
     have BR:=Hy (EB.o w7 kL)
     have HC7:=Hy kL
     clear kL k1
     go_wp2_with fail
     refine BR.o.mono ?_
     intro en w8 hh
     have BS:=hh.1
     subst BS
     have Ez:=Hy hh
     clear hh l0 l1
     go_wp2
     have cF:zP L (dn,A)=0:=zmF (by rw [fT.o]) HQ.o (by rw [fT.o];exact fun h=>(by have:=h.2;rw [oN.o] at this;cases this)) HN.o (by have:=HM.o;omega)
     exact zmB
    have wS:((N:Int) != 0)=true:=by simp;omega
    have iI:=Hy oR
    clear oR
    go_wp2
    exact cD.o N ((zmD (by rw [fT.o]) HQ.o (by rw [fT.o];exact fun h=>(by have:=h.2;rw [oN.o] at this;cases this)) (by rw [HN.o];exact iI.o)).trans HN.o) iI.o _ H5.o.2
theorem zuf (h:zt L e.1=false):zbe L e=32:=by unfold zbe;rw [if_pos h]
theorem zmI (h:zt L e.1=true):zbe L e=zbs e:=by unfold zbe;rw [if_neg (by rw [h];decide)]
theorem zug (h:zbe L e=c) (hc:c≠0):zbf L e=L:=by unfold zbf;rw [if_neg Om]
theorem ziF (h:zt L s=false):zaI L s=32:=by unfold zaI;rw [if_pos h]
theorem ziG (h:zt L s=true) (h2:zk L s≠[]):zaI L s=66:=by unfold zaI;rw [if_neg (by rw [h];decide),if_pos h2]
theorem zfl (h:zt L s=true) (h2:zk L s=[]):zaI L s=0:=by unfold zaI;rw [if_neg (by rw [h];decide),if_neg (by simp [h2])]
theorem zfm (h:zaI L s=c) (hc:c≠0):zaD L s=L:=by unfold zaD;rw [if_neg Om]
theorem zuh (B g sb:Nat) (S:Nat->Prop) (L:List Ent) (A:List Atr) (dn:Bs) (av:Value) (w:World) (h:zU w B g (.pointer (some ⟨sb,0,none⟩)) S L) (hT:TrL L) (hl:L.length<=1024) (bk:Off S w (fun w=>ic w sb plT plC)) (he:Off S w zD) (hA:zak w av A) (hf:zcz A) (hdn:dn.length<=140737488355328) :
  Calls prog 31 #[.pointer (some ⟨g,0,none⟩),.agg #[.string ⟨dn.toArray⟩,av]] w (zbT (zbe L (dn,A)) B g (.pointer (some ⟨sb,0,none⟩)) S (zbf L (dn,A)) w):=by
 have dj:=id h
 obtain ⟨eb,bb,fe,F,nb,hS,hg,⟨gR,gb,aH,je⟩,h1,h2,h3,h4⟩:=h
 have zg:=zi hg
 have zeb:=zaS h1
 have hJ:¬ g=eb:=fun e=>by obtain ⟨es,c,hm⟩:=zaY h1;rw [e,hm] at hg;cases hg
 obtain ⟨W0,aN⟩:=Ex (w.alloc (.cells #[.string ⟨dn.toArray⟩,av] 39))
 have aE:=Nb aN
 have bB:=Nw aN
 have wR:∀ w',Below w.heap.size w w'->zD w':=fun w' hb=>zax he.now hb
 have kN:=Hy (zgd B g _ S L dn W0 (zeo dj aE) hdn)
 have dq:=Hy (fun w' (hb:Below w.heap.size w w') r D (hn:nrD dn=some (r :: D))=>zmA g sb _ _ A dn r D av w' (zj hg hb zg) (zby bk.now hb) (zcb hA hb) hf hn (wR w' hb))
 have iJ:=Hy (fun w' (hb:Below w.heap.size w w')=>zqe A dn av w' (zcb hA hb) hf.1)
 have cD:=Hy (fun (c:Nat) (hc:zbe L (dn,A)=c) (h0:c≠0) w' (hb:Below w.heap.size w w')=>show zbT (zbe L (dn,A)) B g (.pointer (some ⟨sb,0,none⟩)) S (zbf L (dn,A)) w (.returned (.int .i64 (c:Nat))) w' from by rw [zug hc h0];exact ziz hc dj hb)
 obtain ⟨a,c,rfl⟩:=zdH hA
 obtain ⟨n,fs⟩:=Ex A.length
 rw [fs] at aN bB dq iJ ⊢
 obtain ⟨e0,e1⟩:=zf bB
 have zx:=zi bB
 obtain ⟨c0,c1,c2⟩:=ze (zj hg aE zg)
 have Hf:=Nat.lt_of_lt_of_le zg aE.size
 have HX:=Hy (An aE bB)
 have gD:=Hy aN
 have HG:=Hy hg
 rw [<- aN] at c0 e0 e1
 have dX:=Hy (An h1 (An hJ (An hJ zeb)))
 have du:=Hy (An hT (An hS (An h2 (An h3 (An h4 (An gR (An gb (An aH je))))))))
 have l4:=Hy (An bk (An he dj))
 obtain ⟨G,oP⟩:∃ G:Ending->World->Prop,zbT (zbe L (dn,A)) B g (.pointer (some ⟨sb,0,none⟩)) S (zbf L (dn,A)) w=G:=⟨_,rfl⟩
 have BP:=Hy oP
 rw [oP] at cD ⊢
 obtain ⟨q,hq⟩:=Ex (zt L dn)
 rw [hq] at kN
 have HQ:=Hy hq
 clear bk he hA hf fs aE bB aN hg hT hS h1 h2 h3 h4 gR gb aH je dj wR oP hJ hq
 go_enter func31,ntmps31
 go_wp2_with fail
 rw [gD.o]
 refine kN.o.mono ?_
 rintro en w3 ⟨rfl,aK⟩
 have H3:=Hy (An aK (HX.o.1.trans (aK.mono HX.o.1.size)))
 obtain ⟨e0,e1⟩:=zf (zj HX.o.2 H3.o.1 zx)
 clear aK c0 c1 c2 kN
 cases q with
 | false =>
  go_wp2
  exact cD.o 32 (zuf HQ.o) De _ H3.o.2
 | true =>
  obtain ⟨r,D,BQ⟩:Nm dn:=by
   obtain ⟨x,hx,so⟩:=zbr.1 HQ.o
   exact so ▸ du.o.1.nm x hx
  have HC:=Hy (dq.o w3 H3.o.2 r D BQ)
  obtain ⟨N,hN⟩:=Ex (zbs (dn,A))
  rw [hN] at HC
  have HN:=Hy hN
  clear hN
  go_wp2_with fail
  refine HC.o.mono ?_
  rintro en w5 ⟨rfl,ai⟩
  have H5:=Hy (An (H3.o.1.trans (ai.mono H3.o.1.size)) (H3.o.2.trans (ai.mono H3.o.2.size)))
  obtain ⟨d0,d1⟩:=zf (zj HX.o.2 H5.o.1 zx)
  obtain ⟨c0,c1,c2⟩:=ze (zj HG.o H5.o.2 zg)
  have oQ:=Nat.lt_of_lt_of_le zx H5.o.1.size
  have l3:=Nat.lt_of_lt_of_le zg H5.o.2.size
  clear ai e0 e1 HC c0 c2
  by_cases oR:N=0
  ·subst oR
   go_wp2
   refine wp_region_noPanic ?_
   refine wp_region_held_drew (S:=fun w'=>w'.cell? ⟨g,1,none⟩=some (.map (some eb))/\w'.cell? ⟨w.heap.size,0,none⟩=some (.string ⟨dn.toArray⟩)/\w'.cell? ⟨w.heap.size,1,none⟩=some (.slice a n c)) Kr ?_ (fun aI=>?_)
   ·exact ⟨c1,d0,d1⟩
   refine wpAnyH_take (i:=0) (v:=?vqr0) rfl Kr Kr Kr Fh (Or.inl ⟨by rfl,?yqr0⟩) As ?rqr0
   case yqr0=>(intro w' ar;(try dsimp only at ar);go_simp;with_reducible rfl)
   try simp only [Sg,Act.put,Ss]
   refine wpAnyH_take (i:=1) (v:=?vqr1) rfl Kr Kr Kr Fh (Or.inl ⟨by rfl,?yqr1⟩) As ?rqr1
   case yqr1=>(intro w' ar;(try dsimp only at ar);go_simp;with_reducible rfl)
   try simp only [Sg,Act.put,Ss]
   refine wpAnyH_take (i:=2) (v:=?vqr2) rfl Kr Kr Kr Fh (Or.inl ⟨by rfl,?yqr2⟩) As ?rqr2
   case yqr2=>(intro w' ar;(try dsimp only at ar);go_simp;with_reducible rfl)
   try simp only [Sg,Act.put,Ss]
   refine wpAnyH_take (i:=3) (v:=?vqr3) rfl Kr Kr Kr Fh (Or.inl ⟨by rfl,?yqr3⟩) As ?rqr3
   case yqr3=>(intro w' ar;(try dsimp only at ar);go_simp;with_reducible rfl)
   try simp only [Sg,Act.put,Ss]
   refine wpAnyH_take (i:=4) (v:=?vqr4) rfl Kr Kr Kr Fh (Or.inl ⟨by rfl,?yqr4⟩) As ?rqr4
   case yqr4=>(intro w' ar;(try dsimp only at ar);go_simp;with_reducible rfl)
   try simp only [Sg,Act.put,Ss]
   refine wpAnyH_take (i:=5) (v:=?vqr5) rfl Kr Kr Kr Fh (Or.inl ⟨by rfl,?yqr5⟩) As ?rqr5
   case yqr5=>(intro w' ar;(try dsimp only at ar);go_simp;with_reducible rfl)
   try simp only [Sg,Act.put,Ss]
   refine wpAnyH_take (i:=6) (v:=?vqr6) rfl Kr Kr Kr Fh (Or.inl ⟨by rfl,?yqr6⟩) As ?rqr6
   case yqr6=>(intro w' ar;(try dsimp only at ar);go_simp;with_reducible rfl)
   try simp only [Sg,Act.put,Ss]
   refine wpAnyH_ready (rs:=[7]) Kr Sm ?_
   refine AllReadyH.cons (o:=_) rfl (fun KR aM=>?cqr7) ?nqr7
   case nqr7=>exact AllReadyH.nil
   go_simp
   go_at_call 40
   with_reducible refine (iJ.o _ (by first | exact H5.o.2.drew | exact H5.o.2)).mono ?_
   rintro en w6 ⟨cv,cq,rfl,aS,oS,az⟩
   have az:Below w5.heap.size w5 w6:=(by first | exact (Br w5).drew.trans az | exact az)
   have aq:Below w.heap.size w w6:=H5.o.2.trans (az.mono H5.o.2.size)
   have i1:=(az.cell (p:=⟨g,1,none⟩) l3).trans c1
   have j0:=(az.cell (p:=⟨w.heap.size,0,none⟩) oQ).trans d0
   have j1:=(az.cell (p:=⟨w.heap.size,1,none⟩) oQ).trans d1
   have cP:zC w6 cv (clA A):=⟨cq,_,aS,oS⟩
   obtain ⟨na,nc,rfl⟩:=zh oS
   obtain ⟨N1,iI⟩:=Ex ((clA A).length)
   rw [iI] at cP ⊢
   have lp:=za6 dX.o.1 (aq.block eb dX.o.2.2.2)
   have H6:=Hy (An cP (An aq (An lp az)))
   clear aS oS cP az aq lp iI
   go_wp2_with fail
   refine aM.out _ _ ?_ (fun aI=>?_)
   ·exact ⟨i1,j0,j1⟩
   clear aM KR
   try simp only [Sg,Act.put,Ss]
   refine wpAnyH_ready (rs:=[8]) Kr Sm ?_
   refine AllReadyH.cons (o:=_) rfl (fun KR aM=>?cqr8) ?nqr8
   case nqr8=>exact AllReadyH.nil
   refine zfg rfl (.tmp 29) (.tmp 31) (.tmp 33) 59 39 rfl underlying59 eb L.length fe rfl H6.o.2.2.1 Mx dn (.agg #[.string ⟨dn.toArray⟩,.slice na N1 nc]) rfl rfl hdn ?_
   intro w7 n7 eu eY dW
   have oT:¬ w.heap.size=eb:=by have:=dX.o.2.2.2;omega
   have fS:=zbi dW
   have k1:w7.cell? ⟨g,1,none⟩=some (.map (some eb)):=by have:=fS.block g (Nat.lt_of_lt_of_le l3 H6.o.2.2.2.size) dX.o.2.1;unfold World.cell? at i1 ⊢;simp only [this];exact i1
   have k0:∀ o v,w6.cell? ⟨w.heap.size,o,none⟩=some v->w7.cell? ⟨w.heap.size,o,none⟩=some v:=fun o v hq=>by have:=fS.block w.heap.size (Nat.lt_of_lt_of_le oQ H6.o.2.2.2.size) oT;unfold World.cell? at hq ⊢;simp only [this];exact hq
   have l0:=k0 0 _ j0
   have l1:=k0 1 _ j1
   have H7:=Hy (An eu (An eY dW))
   clear eu eY dW fS k0
   refine aM.out _ _ ?_ (fun aI=>?_)
   ·exact ⟨k1,l0,l1⟩
   clear aM KR
   try simp only [Sg,Act.put,Ss]
   refine wpAnyH_done Kr ?_ _
   refine NoPanic.normal ?_
   clear k1 l0 l1
   go_wp2
   have cF:zbe L (dn,A)=0:=(zmI HQ.o).trans HN.o
   have BO:zbf L (dn,A)=zF (clE (dn,A)) L:=by unfold zbf;rw [if_pos cF]
   rw [<- BP.o,cF,BO]
   obtain ⟨a1,a2,a3,a4,a5,a6,a7,a8,a9⟩:=du.o
   exact zuc l4.o.2.2 a2 HG.o ⟨a6,a7,a8,a9⟩ dX.o.1 a3 a4 a5 a1 HQ.o H6.o.2.1 H6.o.1 H7.o.1 H7.o.2.1 H7.o.2.2
  have wS:((N:Int) != 0)=true:=by simp;omega
  have iI:=Hy oR
  clear oR
  go_wp2
  exact cD.o N ((zmI HQ.o).trans HN.o) iI.o _ H5.o.2
theorem zui (B g:Nat) (sv:Value) (S:Nat->Prop) (L:List Ent) (dn:Bs) (w:World) (h:zU w B g sv S L) (hT:TrL L) (hl:L.length<=1024) (he:Off S w zD) (hdn:dn.length<=140737488355328) :
  Calls prog 19 #[.pointer (some ⟨g,0,none⟩),.string ⟨dn.toArray⟩] w (zbT (zaI L dn) B g sv S (zaD L dn) w):=by
 have dj:=id h
 obtain ⟨eb,bb,fe,F,nb,hS,hg,⟨gR,gb,aH,je⟩,h1,h2,h3,h4⟩:=h
 have zg:=zi hg
 have zeb:=zaS h1
 have hJ:¬ g=eb:=fun e=>by obtain ⟨es,c,hm⟩:=zaY h1;rw [e,hm] at hg;cases hg
 have kN:=Hy (zgd B g _ S L dn w dj hdn)
 have cD:=Hy (fun (c:Nat) (hc:zaI L dn=c) (h0:c≠0) w' (hb:Below w.heap.size w w')=>show zbT (zaI L dn) B g sv S (zaD L dn) w (.returned (.int .i64 (c:Nat))) w' from by rw [zfm hc h0];exact ziz hc dj hb)
 have HG:=Hy hg
 have dX:=Hy (An h1 (An hJ (An hJ zeb)))
 have du:=Hy (An hT (An hS (An h2 (An h3 (An h4 (An gR (An gb (An aH je))))))))
 have l4:=Hy (An he dj)
 obtain ⟨G,oP⟩:∃ G:Ending->World->Prop,zbT (zaI L dn) B g sv S (zaD L dn) w=G:=⟨_,rfl⟩
 have BP:=Hy oP
 rw [oP] at cD ⊢
 obtain ⟨q,hq⟩:=Ex (zt L dn)
 rw [hq] at kN
 have HQ:=Hy hq
 clear he hg hT hS h1 h2 h3 h4 gR gb aH je dj oP hJ hq
 go_enter func19,ntmps19
 go_wp2_with fail
 refine kN.o.mono ?_
 rintro en w3 ⟨rfl,aK⟩
 have H3:=Hy aK
 clear aK kN
 cases q with
 | false =>
  go_wp2
  exact cD.o 32 (ziF HQ.o) De _ H3.o
 | true =>
  obtain ⟨c0,c1,c2⟩:=ze (zj HG.o H3.o zg)
  obtain ⟨p,l,dN,oI,_,D2,kJ⟩:∃ p l,zw dn=(p,true)/\zbY dn=(l,true)/\paL dn=paL p++[l]/\∃ D,nrD p=some D:=zcA (by
   obtain ⟨x,hx,so⟩:=zbr.1 HQ.o
   exact so ▸ du.o.1.nm x hx)
  have EA:p.length<=4096:=by
   have:=zaA kJ
   rw [this.1];exact this.2.2.2
  have EB:=Hy (fun w7 (hc:Chg (fun k=>k=eb) w w7)=>by
   obtain ⟨a1,a2,a3,a4,a5,a6,a7,a8,a9⟩:=du.o
   exact zt1 B g bb nb F (zk L) dn p true w7 ⟨_,eb,zV HG.o hc dX.o.2.1⟩ (zcR a4 hc (fun e=>a8 e.symm)) (ziE a5 hc (fun q k hk e=>zfk a5 hk (by have e:k=eb:=e;rw [e];exact zaY dX.o.1))) (by have:=zgp a4;omega) dN (by have:=zgn L p;omega) Om (l4.o.1 w7 (hc.mono (fun k _ e=>by rw [a2];exact .inl e))))
  obtain ⟨m,hm⟩:=Ex ((zk L dn).length)
  obtain ⟨va,vc,hv⟩:=zh (du.o.2.2.2.2.1 dn).2.1
  rw [hm] at hv
  have cZ:(Instr.lookup 60 (.map (some bb)) (.string ⟨dn.toArray⟩) false).run prog w3=.ok (.slice va m vc) w3:=by
   obtain ⟨a1,a2,a3,a4,a5,a6,a7,a8,a9⟩:=du.o
   have ug:=za6 a4 (H3.o.block bb (zaS a4))
   rw [ziu ug underlying60 (ziA w3) dn hdn]
   unfold zS
   by_cases h0:zk L dn=[]
   ·have e:=(a5 dn).1 h0
    rw [hv] at e
    rw [if_pos h0,Option.getD_none,<- e]
   rw [if_neg h0,Option.getD_some,hv]
  have HM:=Hy hm
  have HP:=Hy (An dN (An EA kJ))
  clear hm hv dN oI EA kJ c0
  by_cases BT:0<m
  ·have q1:(0:Int)<(m:Int):=by omega
   go_wp2
   exact cD.o 66 (ziG HQ.o (fun e=>by have:=HM.o;rw [e] at this;simp at this;omega)) De _ H3.o
  obtain rfl:m=0:=by omega
  clear BT
  go_wp2_with (at_delete;refine zmd rfl (.tmp 22) (.tmp 23) 59 39 rfl underlying59 eb L.length fe rfl (za6 dX.o.1 (H3.o.block eb dX.o.2.2.2)) dn rfl hdn ?_)
  intro w7 n7 eu eY dW
  have kL:Chg (fun k=>k=eb) w w7:=(Chg.ofBelow H3.o).trans (zbi dW) (fun k _ e=>e)
  have BR:=Hy (EB.o w7 kL)
  have H7:=Hy (An eu (An eY dW))
  clear eu eY dW kL c1 c2 cZ
  go_wp2_with fail
  refine BR.o.mono ?_
  intro en w8 hh
  have BS:=hh.1
  subst BS
  have Ez:=Hy hh
  clear hh
  go_wp2
  have cF:zaI L dn=0:=zfl HQ.o (List.eq_nil_of_length_eq_zero HM.o)
  have BO:zaD L dn=zac L dn:=by unfold zaD;rw [if_pos cF]
  rw [<- BP.o,cF,BO]
  obtain ⟨a1,a2,a3,a4,a5,a6,a7,a8,a9⟩:=du.o
  exact zud l4.o.2 a2 HG.o ⟨a6,a7,a8,a9⟩ dX.o.1 a3 a4 a5 a1 HP.o.1 HQ.o H3.o H7.o.1 H7.o.2.1 H7.o.2.2 Ez.o
end Go.Proofs.YtijglbolppkefaaGreatDoor
