/- Whether a part, and a name, may. -/
import Derived.Test.YtijglbolppkefaaGreatDoorMDqA
set_option linter.unusedVariables false
set_option linter.unusedSimpArgs false
set_option maxHeartbeats 25600000
set_option maxRecDepth 100000
namespace Go.Proofs.YtijglbolppkefaaGreatDoor
open Go.Proofs.Tryz
open Go Go.RowKit Go.Proofs.BerK Go.Proofs.MemK Go.Proofs.UtfK
variable {n : Nat} {w w' : World} {p : Av} {r : List Av}
theorem zk1 {p:Prop} (h:p:=by
 go_loopw [5,29] (fun o v wr=>∃ (j:Nat) (Y:Bs),j<=r.length/\v=.int .i64 (j:Nat)/\wr.ownsRow w.heap.size 5 1 o Y.length (bc Y)/\Below w.heap.size w wr/\Y.length<=6700*k+1+834*j /\
  Y++(jnL 43 (decide (j=0)) ((r.map avL).drop j)++Z)=nmL d) (fun _ v _=>r.length - (intOf v).toNat)
 case atStart=>exact ⟨0,_,by omega,rfl,HY.o.1,HY.o.2.1,by have:=HY.o.2.2.1;omega,HY.o.2.2.2⟩
 case round =>
  obtain ⟨j,Y,hj,rfl,ab,hb,hY,hinv⟩:=hrel
  by_cases n9:j<r.length
  ·obtain ⟨a2,c2,hv,_,bG⟩:=zc1 HV.o.1 hb
   injection hv with dl f7 ep
   subst dl ep
   obtain ⟨g2,o2,rfl,cf,e1,e2⟩:=bG j n9
   have lT:(j:Int)<(r.length:Int):=by omega
   have cH:=zeh (HV.o.2.1 _ (List.getElem_mem n9))
   rw [ze9 43 (r.map avL) j (by simpa using n9)] at hinv
   simp only [List.getElem_map] at hinv
   obtain ⟨T,hT⟩:=Ex (r[j].1)
   obtain ⟨V,mG⟩:=Ex (r[j].2)
   have dj:avL r[j]=T++61 :: esL V:=by rw [avL,hT,mG]
   rw [hT] at e1 cH
   rw [mG] at e2 cH
   rw [dj] at hinv
   obtain ⟨Z2,wm⟩:=Ex (jnL 43 (decide (j+1=0)) ((r.map avL).drop (j+1))++Z)
   have mH:=Hy (show T.length<=64/\V.length<=256 from ⟨cH.1,cH.2.2.1⟩)
   obtain ⟨bx,aD⟩:=Ex wr.heap.size
   obtain ⟨W2,aL⟩:=Ex (wr.alloc (.cells #[.string ⟨T.toArray⟩,.string ⟨V.toArray⟩] 144))
   have aw:W2.heap[bx]?=some (.cells #[.string ⟨T.toArray⟩,.string ⟨V.toArray⟩] 144 (0,0)):=by rw [<- aL,<- aD];exact heap_alloc_new wr _
   have hY1:∃ Y':Bs,(¬ 0<j/\Y'=Y\/0<j/\Y'=Y++[43])/\Y'.length<=6700*k+1+834*j+1/\Y'++((T++61 :: esL V)++Z2)=nmL d:=by
    by_cases En:j=0
    ·rw [if_pos En,List.nil_append,List.append_assoc,wm] at hinv
     exact ⟨Y,.inl ⟨by omega,rfl⟩,by omega,hinv⟩
    rw [if_neg En,List.append_assoc,List.append_assoc,wm,<- List.append_assoc] at hinv
    exact ⟨_,.inr ⟨by omega,rfl⟩,by simp;omega,hinv⟩
   obtain ⟨Y',i8,Ly,fA⟩:=hY1
   have fo:=ab.lt
   have gP:=Hy (An (aL ▸ ab.alloc _:W2.ownsRow w.heap.size 5 1 _ Y.length (bc Y)) (An (aL ▸ hb.alloc hb.size _:Below w.heap.size w W2) (An hY (An aw (An fo wm)))))
   have wn:=Hy (An Ly fA)
   clear ab hb hinv hY Ly fA bG cH dj hT mG aw fo wm
   rcases i8 with ⟨En,rfl⟩ | ⟨En,rfl⟩
   ·have cx:=Hy (An gP.o.1 (An gP.o.2.2.2.1 (An (fun hh=>by have:=gP.o.2.2.2.2.1 bx hh;omega:¬ _=some bx) (An gP.o.2.1 wn.o))))
    have tZ:=zq cx.o.2.1 0 _ rfl
    have t6:=zq cx.o.2.1 1 _ rfl
    have jD:=zi cx.o.2.1
    have HE:=Hy (fun w'=>zn6 ⟨V.toArray⟩ (by show V.length<=_;have:=mH.o;omega) w')
    change Hd (∀ w',Calls prog _ _ w' (zG (esL V) w')) at HE
    have qI:=Hy (show (esL V).length<=768 from Nat.le_trans (zf3 true V) (by have:=mH.o;omega))
    obtain ⟨EV,pV⟩:=Ex (esL V)
    rw [pV] at HE qI
    have rX:¬ (9223372036854775807<T.length+1):=by have:=mH.o;omega
    have eF:¬ (9223372036854775807<T.length+1+EV.length):=by have:=mH.o;have:=qI.o;omega
    have od:=Hy (show Y'.length+(⟨T.toArray⟩++⟨#[61]⟩++⟨EV.toArray⟩:ByteArray).size<=140737488355328 by
     rw [show (⟨#[61]⟩:ByteArray)=⟨[61].toArray⟩ from rfl,zaE,zaE]
     show Y'.length+((T++[61])++EV).length<=_
     have h8:=cx.o.2.2.2.2.1
     have:=mH.o
     have:=qI.o
     simp only [List.length_append,List.length_cons,List.length_nil] at h8 ⊢
     omega)
    go_wp2
    go_region_held3 (fun w'=>w'.cell? ⟨bx,0,none⟩=some (.string ⟨T.toArray⟩)/\w'.cell? ⟨bx,1,none⟩=some (.string ⟨V.toArray⟩)) (first | exact ⟨cg,dK⟩ | exact ⟨tZ,t6⟩ | go_keep)
     (first | (go_at_call 187;refine (HE.o _).mono ?_;rintro en w5 ⟨rfl,ai⟩;have ax:Below W2.heap.size W2 w5:=(Br W2).drew.trans ai;have cg:=(ax.cell (p:=⟨bx,0,none⟩) jD).trans tZ;have dK:=(ax.cell (p:=⟨bx,1,none⟩) jD).trans t6) | (refine znM rfl (.tmp 39) (.tmp 46) 176 9 5 rfl w.heap.size Tryz.info5 underlying176 underlying9 _ Y' rfl (zu cx.o.1 ax) _ rfl od.o (Nat.le_trans cx.o.2.2.2.1.size ax.size) ?_;intro v6 w6 g1 g2 g3;have pW:=zV (zj cx.o.2.1 ax jD) g3 (fun hh=>cx.o.2.2.1 hh.symm);have cg:=zq pW 0 _ rfl;have dK:=zq pW 1 _ rfl))
    have e9:(⟨T.toArray⟩++⟨#[61]⟩++⟨EV.toArray⟩:ByteArray)=⟨(T++[61]++EV).toArray⟩:=by rw [show (⟨#[61]⟩:ByteArray)=⟨[61].toArray⟩ from rfl,zaE,zaE]
    rw [e9] at g1
    have H6:=Hy (An g1 (cx.o.2.2.2.1.trans ((ax.mono cx.o.2.2.2.1.size).trans g2)))
    clear g1 g2 g3 pW cg dK ai ax tZ t6
    go_wp2
    refine ⟨⟨j+1,Y'++(T++[61]++EV),by omega,by go_num,H6.o.1,H6.o.2,?_,?_⟩,by simp [intOf];omega⟩
    ·have h8:=cx.o.2.2.2.2.1;have:=mH.o;have:=qI.o;simp only [List.length_append,List.length_cons,List.length_nil] at h8 ⊢;omega
    have h9:=cx.o.2.2.2.2.2
    rw [pV] at h9
    rw [gP.o.2.2.2.2.2,<- h9]
    simp only [List.append_assoc,List.cons_append,List.nil_append]
   go_wp2_with (at_builtin;refine zaM rfl (.tmp 36) (.tmp 37) 176 5 rfl w.heap.size 1 1 (.int .u8 0) Tryz.info5 underlying176 rfl De [.int .u8 43] rfl ?c0 _ Y.length _ rfl _ rfl ?c3 gP.o.1 ?c1 ?c2 gP.o.2.1.size ?_)
   case c0=>first | rfl | (intro u hu;simp at hu;subst hu;rfl)
   case c1=>have:=gP.o.2.2.1;unfold maxLen;omega
   case c2=>have:=gP.o.2.2.1;omega
   case c3=>rfl
   intro v3 W3 g1 g2 g3
   have aK:W3.heap[bx]?=some (.cells #[.string ⟨T.toArray⟩,.string ⟨V.toArray⟩] 144 (0,0)):=zV gP.o.2.2.2.1 g2 (fun hh=>by have:=gP.o.2.2.2.2.1 bx hh.symm;omega)
   have bp:Below w.heap.size w W3:=gP.o.2.1.trans (g2.toBelow gP.o.2.1.size (fun k _ hk=>(gP.o.2.2.2.2.1 k hk.symm).1))
   obtain ⟨a3,c3,rfl⟩:=zh g1
   have cx:=Hy (An (show W3.ownsRow w.heap.size 5 1 (.slice a3 (Y.length+1) c3) (Y++[43]).length (bc (Y++[43])) by rw [zbU,List.length_append];exact g1) (An aK (An (fun hh=>by
    have h7:=zi gP.o.2.2.2.1
    rcases g3 with g3 | ⟨q,g3,g4⟩
    ·rw [g3] at hh;have:=gP.o.2.2.2.2.1 bx hh;omega
    rw [g3] at hh;injection hh with hh;omega:¬ (Value.slice a3 (Y.length+1) c3).ownBlock=some bx) (An bp wn.o))))
   clear g1 g2 g3 aK bp
   have tZ:=zq cx.o.2.1 0 _ rfl
   have t6:=zq cx.o.2.1 1 _ rfl
   have jD:=zi cx.o.2.1
   have HE:=Hy (fun w'=>zn6 ⟨V.toArray⟩ (by show V.length<=_;have:=mH.o;omega) w')
   change Hd (∀ w',Calls prog _ _ w' (zG (esL V) w')) at HE
   have qI:=Hy (show (esL V).length<=768 from Nat.le_trans (zf3 true V) (by have:=mH.o;omega))
   obtain ⟨EV,pV⟩:=Ex (esL V)
   rw [pV] at HE qI
   have rX:¬ (9223372036854775807<T.length+1):=by have:=mH.o;omega
   have eF:¬ (9223372036854775807<T.length+1+EV.length):=by have:=mH.o;have:=qI.o;omega
   have od:=Hy (show (Y++[43]).length+(⟨T.toArray⟩++⟨#[61]⟩++⟨EV.toArray⟩:ByteArray).size<=140737488355328 by
    rw [show (⟨#[61]⟩:ByteArray)=⟨[61].toArray⟩ from rfl,zaE,zaE]
    show (Y++[43]).length+((T++[61])++EV).length<=_
    have h8:=cx.o.2.2.2.2.1
    have:=mH.o
    have:=qI.o
    simp only [List.length_append,List.length_cons,List.length_nil] at h8 ⊢
    omega)
   go_wp2
   go_region_held3 (fun w'=>w'.cell? ⟨bx,0,none⟩=some (.string ⟨T.toArray⟩)/\w'.cell? ⟨bx,1,none⟩=some (.string ⟨V.toArray⟩)) (first | exact ⟨cg,dK⟩ | exact ⟨tZ,t6⟩ | go_keep)
    (first | (go_at_call 187;refine (HE.o _).mono ?_;rintro en w5 ⟨rfl,ai⟩;have ax:Below W3.heap.size W3 w5:=(Br W3).drew.trans ai;have cg:=(ax.cell (p:=⟨bx,0,none⟩) jD).trans tZ;have dK:=(ax.cell (p:=⟨bx,1,none⟩) jD).trans t6) | (refine znM rfl (.tmp 39) (.tmp 46) 176 9 5 rfl w.heap.size Tryz.info5 underlying176 underlying9 _ (Y++[43]) rfl (zu cx.o.1 ax) _ rfl od.o (Nat.le_trans cx.o.2.2.2.1.size ax.size) ?_;intro v6 w6 g1 g2 g3;have pW:=zV (zj cx.o.2.1 ax jD) g3 (fun hh=>cx.o.2.2.1 hh.symm);have cg:=zq pW 0 _ rfl;have dK:=zq pW 1 _ rfl))
   have e9:(⟨T.toArray⟩++⟨#[61]⟩++⟨EV.toArray⟩:ByteArray)=⟨(T++[61]++EV).toArray⟩:=by rw [show (⟨#[61]⟩:ByteArray)=⟨[61].toArray⟩ from rfl,zaE,zaE]
   rw [e9] at g1
   have H6:=Hy (An g1 (cx.o.2.2.2.1.trans ((ax.mono cx.o.2.2.2.1.size).trans g2)))
   clear g1 g2 g3 pW cg dK ai ax tZ t6
   go_wp2
   refine ⟨⟨j+1,(Y++[43])++(T++[61]++EV),by omega,by go_num,H6.o.1,H6.o.2,?_,?_⟩,by simp [intOf];omega⟩
   ·have h8:=cx.o.2.2.2.2.1;have:=mH.o;have:=qI.o;simp only [List.length_append,List.length_cons,List.length_nil] at h8 ⊢;omega
   have h9:=cx.o.2.2.2.2.2
   rw [pV] at h9
   rw [gP.o.2.2.2.2.2,<- h9]
   simp only [List.append_assoc,List.cons_append,List.nil_append]
  obtain rfl:j=r.length:=by omega
  rw [show r.length=(r.map avL).length by simp,zfa,List.nil_append] at hinv
  have H:=Hy (An ab (An hb (An hY hinv)))
  clear ab hb hY hinv
  go_wp2
  refine ⟨⟨k+1,Y,by omega,by go_num,H.o.1,H.o.2.1,?_,?_⟩,by simp [intOf];omega⟩
  ·have:=H.o.2.2.1;omega
  rw [HV.o.2.2];exact H.o.2.2.2):p:=h
theorem zk2 {p:Prop} (h:p:=by
 by_cases h4:4096<(nmL d).length
 ·have HR:=Hy (HL.o h4)
  have hq:(4096:Int)<((nmL d).length:Int):=by omega
  clear h4
  go_wp2
  go_ret2
  exact zc8 (a:=[]) (n:=3) HR.o H.o
 have HR:=Hy (HO.o h4)
 have hq:((nmL d).length:Int)<=4096:=by omega
 clear h4
 go_wp2
 go_ret2
 exact zc8 (n:=0) HR.o H.o):p:=h
theorem zie {p:Prop} (h:p:=by
 go_wp2_with fail
 refine (HT.o _).mono ?_
 rintro e w2 ⟨rfl,bL⟩
 obtain rfl:=bL.symm
 go_wp2
 go_ret
 exact zbF H.o.2 H.o.1):p:=h
theorem zif {p:Prop} (h:p:=by
 go_wp2_with fail
 refine (eS.o _).mono ?_
 rintro e w2 ⟨rfl,bL⟩
 obtain rfl:=bL.symm
 go_wp2
 go_ret
 exact zdP H.o.2 H.o.1):p:=h
theorem zk4 {p:Prop} (h:p:=by
 intro v' w' g1 g2
 go_wp2
 refine ⟨⟨k+1,by omega,by go_num,?_,H.o.2.trans g2⟩,by simp [intOf];omega⟩
 rw [HS.o,zbU]
 rw [<- HQ.o] at g1;exact g1):p:=h
theorem zk5 {p:Prop} (h:p:=by
 rw [List.take_length] at af
 have H:=Hy (An hb (HG.o af))
 clear hb af
 go_wp2
 go_ret
 exact zdP H.o.2 H.o.1):p:=h
theorem zk6 {p:Prop} (h:p:=by
 go_wp2_with fail
 refine HC.o.mono ?_
 rintro e w1 ⟨rfl,au⟩
 go_wp2
 go_ret2
 exact zc8 (a:=[]) HR.o au):p:=h
theorem zk7 (r:List Av) (k:Nat) (h:k<r.length):pgL (r.take k) (r.drop k)=(zbH r[k] && !twL (r.take k) r[k] && pgL (r.take (k+1)) (r.drop (k+1))):=by
 rw [zO r k h,pgL,List.take_succ_eq_append_getElem h]
theorem zk8 (r:List Av):pgL (r.take r.length) (r.drop r.length)=true:=by rw [List.drop_length];rfl
theorem zk9 (p:Av):(zbH p=false/\(tyL p.1=false\/(tyL p.1=true/\p.2=[])\/(tyL p.1=true/\p.2≠[]/\256<p.2.length)))\/(zbH p=true/\tyL p.1=true/\p.2≠[]/\p.2.length<=256):=by
 unfold zbH
 cases tyL p.1 <;> by_cases h:p.2=[] <;> by_cases h2:p.2.length<=256 <;> simp [h,h2] <;> omega
theorem zrR (v:Value) (r:List Av) (w:World) (h:zb8 w v r) :
  Calls prog 170 #[v] w (zbE (prL r) w):=by
 obtain ⟨a,c,hv,bM,_⟩:=id h
 by_cases h0:r.length<1\/8<r.length
 ·have H:=Hy (show prL r=false by simp only [prL,Bool.and_eq_false_iff,decide_eq_false_iff_not];omega)
  have GH:(r.length:Int)<1\/(1<=(r.length:Int)/\(8:Int)<(r.length:Int)):=by omega
  subst hv
  clear h0 h
  rcases GH with h0 | ⟨h0,h1⟩
  all_goals
   go_enter func170,ntmps170
   go_wp2
   go_ret
   exact zbF H.o (Br _)
 have h1:(1:Int)<=(r.length:Int):=by omega
 have h2:(r.length:Int)<=8:=by omega
 have HP:=Hy (show prL r=pgL [] r by simp only [prL,Bool.and_eq_true,decide_eq_true_eq];rw [show decide (1<=r.length)=true by simp;omega,show decide (r.length<=8)=true by simp;omega];rfl)
 have HA:=Hy h
 subst hv
 clear h0 h
 go_enter func170,ntmps170
 go_wp2
 go_loopw [15] (fun v wr=>∃ k:Nat,k<=r.length/\v=.int .i64 (k:Nat)/\Below w.heap.size w wr/\pgL (r.take k) (r.drop k)=prL r) (fun v _=>r.length - (intOf v).toNat)
 case atStart=>exact ⟨0,by omega,rfl,Br _,by rw [HP.o];rfl⟩
 case round =>
  obtain ⟨k,hk,rfl,hb,hinv⟩:=hrel
  by_cases aj:k<r.length
  ·obtain ⟨a',c',hv,_,ae⟩:=zc1 HA.o hb
   injection hv with dl f7 ep
   subst dl ep
   obtain ⟨g,o,rfl,hg,c1,c2⟩:=ae k aj
   rw [zk7 r k aj] at hinv
   have bh:(k:Int)<(r.length:Int):=by omega
   obtain ⟨T,hT⟩:=Ex (r[k].1)
   obtain ⟨V,hV⟩:=Ex (r[k].2)
   have hw:=zk9 r[k]
   have t7:twL (r.take k) r[k]=(r.take k).any (fun q=>za q.1==za T):=by rw [twL,hT]
   rw [hT,hV] at hw
   rw [hT] at c1
   rw [hV] at c2
   have HT:=Hy (zn1 ⟨T.toArray⟩)
   change Hd (∀ w,Calls prog _ _ w (za1 (tyL T) w)) at HT
   obtain ⟨W,hW⟩:=Ex (wr.alloc (.cells #[.string ⟨T.toArray⟩,.string ⟨V.toArray⟩] 144))
   have ax:Below w.heap.size w W:=by rw [<- hW];exact hb.alloc hb.size _
   have ef:W.cell? ⟨wr.heap.size,0,none⟩=some (.string ⟨T.toArray⟩):=by rw [<- hW,World.cell?_alloc_mark wr _ _ (0,0)];rfl
   have j8:W.cell? ⟨wr.heap.size,1,none⟩=some (.string ⟨V.toArray⟩):=by rw [<- hW,World.cell?_alloc_mark wr _ _ (0,0)];rfl
   have hz:wr.heap.size<W.heap.size:=by rw [<- hW];simp
   rcases hw with ⟨aS,hw⟩ | ⟨aS,f8,bL,t8⟩
   ·rw [aS,Bool.false_and,Bool.false_and] at hinv
    have H:=Hy (An ax hinv.symm)
    clear hinv hb ae aS ax t7 hT hV
    rcases hw with hw | ⟨hw,AX⟩ | ⟨hw,bL,t8⟩
    ·rw [hw] at HT
     exact zie
    ·rw [hw] at HT
     have dS:V.isEmpty=true:=by rw [AX];rfl
     clear AX
     exact zie
    rw [hw] at HT
    have dS:V.isEmpty=false:=by cases V <;> simp_all
    have AY:(256:Int)<(V.length:Int):=by omega
    clear bL t8
    exact zie
   rw [aS,Bool.true_and] at hinv
   rw [f8] at HT
   have dS:V.isEmpty=false:=by cases V <;> simp_all
   have AY:(V.length:Int)<=256:=by omega
   have cX:(0:Int)<=(k:Int):=by omega
   have hkc:(k:Int)<=(c:Int):=by omega
   obtain ⟨a',c',hv,AZ⟩:=zwx (zc1 HA.o ax) k hk
   injection hv with dl f7 ep
   subst dl ep
   have HH:=Hy (fun w' (ak:Below W.heap.size W w')=>zwB _ _ ⟨T.toArray⟩ w' (zc1 AZ ak) So)
   change Hd (∀ w',Below W.heap.size W w'->Calls prog _ _ w' (zbE ((r.take k).any (fun q=>za q.1==za T)) w')) at HH
   rw [<- t7] at HH
   obtain ⟨q,hq⟩:=Ex (twL (r.take k) r[k])
   rw [hq] at HH hinv
   have H:=Hy (An ax hinv)
   clear hinv hb ae aS ax t7 hT hV f8 bL t8 AZ hq
   go_wp2_with fail
   refine (HT.o _).mono ?_
   rintro e w2 ⟨rfl,bL⟩
   obtain rfl:=bL.symm
   go_wp2
   go_region_held3 (fun w'=>w'.cell? ⟨wr.heap.size,0,none⟩=some (.string ⟨T.toArray⟩)) (first | exact dK | exact ef | go_keep)
    (first | (go_at_call 197;refine (HH.o _ ((Br W).drew)).mono ?_;rintro en w3 ⟨rfl,aK⟩;have dK:=(aK.cell (p:=⟨wr.heap.size,0,none⟩) hz).trans ef))
   have bf:Below w.heap.size w w3:=H.o.1.trans ((Br W).drew.trans aK |>.mono H.o.1.size)
   have H4:=Hy bf
   clear aK bf dK
   cases q
   ·go_wp2
    refine ⟨⟨k+1,by omega,by go_num,H4.o,?_⟩,by simp [intOf];omega⟩
    have:=H.o.2
    simpa using this
   go_wp2
   go_ret
   refine zbF ?_ H4.o
   have:=H.o.2
   simpa using this.symm
  obtain rfl:k=r.length:=by omega
  rw [zk8] at hinv
  have H:=Hy (An hb hinv.symm)
  clear hb hinv
  go_wp2
  go_ret
  exact zbF H.o.2 H.o.1
def zig (n:Nat) (w:World) (en:Ending) (w':World):Prop:=en=.returned (.int .i64 (n:Nat))/\Below w.heap.size w w'
theorem zdP {m:Nat} (h:n=m) (hb:Below w.heap.size w w'):zig n w (.returned (.int .i64 (m:Nat))) w':=by subst h;exact ⟨rfl,hb⟩
theorem zla (d:List (List Av)) (h:32<d.length):ckD d=3:=by rw [ckD,if_pos h]
theorem zlb (d:List (List Av)) (h:d.length<=32) (k:Nat) (hk:k<d.length) (hp:prL d[k]=false):ckD d=5:=by
 have:d.all prL=false:=by
  rw [List.all_eq_false]
  exact ⟨d[k],List.getElem_mem hk,by simp [hp]⟩
 rw [ckD,if_neg Om,this];rfl
theorem zlc (d:List (List Av)) (h:d.length<=32) (hp:d.all prL=true):ckD d=0:=by rw [ckD,if_neg Om,hp];rfl
theorem zld {α:Type} (p:α->Bool) (r:List α) (k:Nat) (h:k<r.length) (h1:(r.take k).all p=true) (h2:p r[k]=true):(r.take (k+1)).all p=true:=by
 rw [List.take_succ_eq_append_getElem h,List.all_append,h1];simp [h2]
theorem zle (v:Value) (d:List (List Av)) (w:World) (h:zb9 w v d) :
  Calls prog 143 #[v] w (zig (ckD d) w):=by
 obtain ⟨a,c,hv,bM,_⟩:=id h
 have HA:=Hy h
 subst hv
 clear h
 by_cases h0:32<d.length
 ·have H:=Hy (zla d h0)
  have h1:(32:Int)<(d.length:Int):=by omega
  clear h0
  go_enter func143,ntmps143
  go_wp2
  go_ret
  exact zdP H.o (Br _)
 have h1:(d.length:Int)<=32:=by omega
 have HB:=Hy (zlb d Om)
 have HG:=Hy (zlc d Om)
 clear h0
 go_enter func143,ntmps143
 go_wp2
 go_loopw [10] (fun v wr=>∃ k:Nat,k<=d.length/\v=.int .i64 (k:Nat)/\Below w.heap.size w wr/\(d.take k).all prL=true) (fun v _=>d.length - (intOf v).toNat)
 case atStart=>exact ⟨0,by omega,rfl,Br _,rfl⟩
 case round =>
  obtain ⟨k,hk,rfl,hb,af⟩:=hrel
  by_cases aj:k<d.length
  ·obtain ⟨a',c',hv,_,ae⟩:=zoa HA.o hb
   injection hv with dl f7 ep
   subst dl ep
   obtain ⟨g,o,u,rfl,hg,c1,cH⟩:=ae k aj
   have bh:(k:Int)<(d.length:Int):=by omega
   have HC:=Hy (zrR u d[k] wr cH)
   obtain ⟨ua,uc,hu,_,_⟩:=cH
   subst hu
   obtain ⟨q,hq⟩:=Ex (prL d[k])
   cases q
   ·rw [hq] at HC
    have H:=Hy (An hb (HB.o k aj hq))
    clear hb af ae hq
    go_wp2_with fail
    refine HC.o.mono ?_
    rintro e w2 ⟨rfl,ak⟩
    go_wp2
    go_ret
    exact zdP H.o.2 (H.o.1.trans (ak.mono H.o.1.size))
   rw [hq] at HC
   have H:=Hy (An hb (zld prL d k aj af hq))
   clear hb af ae hq
   go_wp2_with fail
   refine HC.o.mono ?_
   rintro e w2 ⟨rfl,ak⟩
   go_wp2
   exact ⟨⟨k+1,by omega,by go_num,H.o.1.trans (ak.mono H.o.1.size),H.o.2⟩,by simp [intOf];omega⟩
  obtain rfl:k=d.length:=by omega
  exact zk5
theorem ze9 (sep:UInt8) (l:List (Bs)) (k:Nat) (h:k<l.length):jnL sep (decide (k=0)) (l.drop k)=(if k=0 then [] else [sep])++(l[k]++jnL sep (decide (k+1=0)) (l.drop (k+1))):=by
 rw [zO l k h,jnL,show decide (k+1=0)=false by simp]
 simp only [decide_eq_true_eq]
theorem zfa (sep:UInt8) (l:List (Bs)) (f:Bool):jnL sep f (l.drop l.length)=[]:=by rw [List.drop_length];rfl
theorem zf3 (f:Bool) (l:Bs):(egL f l).length<=3*l.length:=by
 induction l generalizing f with
 | nil=>simp [egL]
 | cons c r ih =>
  rw [egL,List.length_append,List.length_cons]
  have:=ih false
  have:(e1L f r.isEmpty c).length<=3:=by
   unfold e1L
   split
   ·simp
   split <;> simp
  omega
theorem zlf {s:Bs} (h:tyL s=true):s.length<=64:=by
 simp only [tyL,Bool.and_eq_true,decide_eq_true_eq] at h;exact h.1.2
theorem zrS (seen r:List Av) (h:pgL seen r=true):∀ p∈r,zbH p=true:=by
 induction r generalizing seen with
 | nil=>intro p hp;cases hp
 | cons q r ih =>
  rw [pgL,Bool.and_eq_true,Bool.and_eq_true] at h
  intro p hp
  rcases List.mem_cons.1 hp with rfl | hp
  ·exact h.1.1
  exact ih _ h.2 p hp
theorem zeh (h:zbH p=true):p.1.length<=64/\p.2≠[]/\p.2.length<=256/\tyL p.1=true:=by
 simp only [zbH,Bool.and_eq_true,decide_eq_true_eq] at h
 exact ⟨zlf h.1.1,h.1.2,h.2,h.1.1⟩
theorem zcv (h:prL r=true):1<=r.length/\r.length<=8/\∀ p∈r,zbH p=true:=by
 simp only [prL,Bool.and_eq_true,decide_eq_true_eq] at h
 exact ⟨h.1.1,h.1.2,zrS _ _ h.2⟩
theorem zf4 {d:List (List Av)} (h:ckD d=0):d.length<=32/\∀ r∈d,prL r=true:=by
 unfold ckD at h
 split at h
 ·cases h
 split at h
 ·rename_i h1 h2
  exact ⟨by omega,fun r hr=>List.all_eq_true.1 h2 r hr⟩
 cases h
theorem zrT (h:zbH p=true):(avL p).length<=833:=by
 have h1:=zeh h
 have h2:=zf3 true p.2
 rw [avL,List.length_append,List.length_cons,esL];omega
def zdo (p:Bs × Nat) (w:World) (en:Ending) (w':World):Prop:=en=.returned (.tuple #[.string ⟨p.1.toArray⟩,.int .i64 (p.2:Nat)])/\Below w.heap.size w w'
theorem zc8 {p:Bs × Nat} {a:Bs} (h:p=(a,n)) (hb:Below w.heap.size w w'):zdo p w (.returned (.tuple #[.string ⟨a.toArray⟩,.int .i64 (n:Nat)])) w':=by subst h;exact ⟨rfl,hb⟩
theorem zlg (d:List (List Av)) (h:ckD d≠0):puD d=([],ckD d):=by rw [puD,if_pos h]
theorem zlh (d:List (List Av)) (h:ckD d=0) (h2:4096<(nmL d).length):puD d=([],3):=by rw [puD,if_neg Om,if_pos h2]
theorem zli (d:List (List Av)) (h:ckD d=0) (h2:¬ 4096<(nmL d).length):puD d=(nmL d,0):=by rw [puD,if_neg Om,if_neg h2]
theorem zlj (v:Value) (d:List (List Av)) (w:World) (h:zb9 w v d) :
  Calls prog 163 #[v] w (zdo (puD d) w):=by
 have HC:=Hy (zle v d w h)
 have HA:=Hy h
 obtain ⟨a,c,hv,bM,_⟩:=id h
 subst hv
 clear h
 by_cases h0:ckD d=0
 ·rw [h0] at HC
  obtain ⟨ef,j8⟩:=zf4 h0
  have HL:=Hy (zlh d h0)
  have HO:=Hy (zli d h0)
  have qJ:(d.length:Int)<=32:=by omega
  clear h0
  go_enter func163,ntmps163
  go_wp2_with fail
  refine HC.o.mono ?_
  rintro e w1 ⟨rfl,au⟩
  go_wp2
  go_loopw [5,17] (fun o v wr=>∃ (k:Nat) (X:Bs),k<=d.length/\v=.int .i64 (k:Nat)/\wr.ownsRow w.heap.size 5 1 o X.length (bc X)/\Below w.heap.size w wr/\X.length<=6700*k /\
   X++jnL 44 (decide (k=0)) ((d.map ptL).drop k)=nmL d) (fun _ v _=>d.length - (intOf v).toNat)
  case atStart=>exact ⟨0,[],by omega,rfl,World.ownsRow_nil _ _ _ _,au,by simp,rfl⟩
  case round =>
   obtain ⟨k,X,hk,rfl,ab,hb,hX,hinv⟩:=hrel
   by_cases aj:k<d.length
   ·obtain ⟨a',c',hv,_,ae⟩:=HA.o
    injection hv with dl f7 ep
    subst dl ep
    obtain ⟨g,o,u,rfl,hg,c1w,cH⟩:=ae k aj
    have c1:=(hb.cell (p:=⟨g,_,none⟩) hg).trans c1w
    have bh:(k:Int)<(d.length:Int):=by omega
    obtain ⟨j9,iy,A0⟩:=zcv (j8 _ (List.getElem_mem aj))
    rw [ze9 44 (d.map ptL) k (by simpa using aj)] at hinv
    simp only [List.getElem_map] at hinv
    obtain ⟨r,hr⟩:=Ex (d[k])
    rw [hr] at cH j9 iy A0 hinv
    obtain ⟨Z,hZ⟩:=Ex (jnL 44 (decide (k+1=0)) ((d.map ptL).drop (k+1)))
    rw [hZ] at hinv
    obtain ⟨ua,uc,hu,A1,i9⟩:=id cH
    subst hu
    have HV:=Hy (An cH (An A0 hZ))
    have hr2':(r.length:Int)<=8:=by omega
    clear ae i9 cH c1w
    have qK:∃ X':Bs,(¬ 0<k/\X'=X\/0<k/\X'=X++[44])/\X'.length<=6700*k+1/\X'++(ptL r++Z)=nmL d:=by
     by_cases cX:k=0
     ·rw [if_pos cX,List.nil_append] at hinv
      exact ⟨X,.inl ⟨by omega,rfl⟩,by omega,hinv⟩
     rw [if_neg cX,<- List.append_assoc] at hinv
     exact ⟨_,.inr ⟨by omega,rfl⟩,by simp;omega,hinv⟩
    obtain ⟨X',i8,A2,fA⟩:=qK
    have HX:=Hy (An ab (An hb (An hX (An A2 fA))))
    clear ab hb hinv hX A2 fA
    rcases i8 with ⟨cX,rfl⟩ | ⟨cX,rfl⟩
    ·go_wp2
     have HY:=Hy (An HX.o.1 (An HX.o.2.1 (An HX.o.2.2.2.1 HX.o.2.2.2.2)))
     exact zk1
    go_wp2_with (at_builtin;refine zaj rfl (.tmp 24) (.tmp 25) 176 5 rfl w.heap.size 1 1 (.int .u8 0) Tryz.info5 underlying176 rfl De 1 [.int .u8 44] rfl ?c0 _ X.length _ rfl _ rfl ?c3 HX.o.1 ?c1 ?c2 HX.o.2.1.size ?_)
    case c0=>first | rfl | (intro u hu;simp at hu;subst hu;rfl)
    case c1=>have:=HX.o.2.2.1;unfold maxLen;omega
    case c2=>have:=HX.o.2.2.1;omega
    case c3=>rfl
    intro v' w' g1 g2
    obtain ⟨a3,c3,rfl⟩:=zh g1
    have HY:=Hy (An (show w'.ownsRow w.heap.size 5 1 (.slice a3 (X.length+1) c3) (X++[44]).length (bc (X++[44])) by rw [zbU,List.length_append];exact g1) (An (HX.o.2.1.trans g2) (An HX.o.2.2.2.1 HX.o.2.2.2.2)))
    clear g1 g2
    go_wp2
    exact zk1
   obtain rfl:k=d.length:=by omega
   rw [show d.length=(d.map ptL).length by simp,zfa,List.append_nil] at hinv
   subst hinv
   have hc:=zgH (P:=prog) (src:=176) (dst:=9) underlying176 underlying5 underlying9 ab
   obtain ⟨oa,oc,rfl⟩:=zh ab
   have H:=Hy hb
   clear hb ab
   exact zk2
 have HR:=Hy (zlg d h0)
 obtain ⟨n,hn⟩:=Ex (ckD d)
 rw [hn] at HC HR h0
 have hq:((n:Int) != 0)=true:=by simp;omega
 clear h0 hn
 go_enter func163,ntmps163
 exact zk6
theorem zrU (s:ByteArray) (k:Nat) (h:k<s.size):za (s.data.toList.take (k+1))=za (s.data.toList.take k)++[zbg s[k]]:=by
 rw [zdb s k h];simp [za]
theorem zb4 (s:ByteArray) (hm:s.size<=140737488355328) (w:World) :
  Calls prog 82 #[.string s] w (zG (za s.data.toList) w):=by
 have aW:=zl s
 go_enter func82,ntmps82
 go_wp2
 go_loopw [3,4] (fun o v wr=>∃ k:Nat,k<=s.size/\v=.int .i64 (k:Nat)/\wr.ownsRow w.heap.size 5 1 o k (bc (za (s.data.toList.take k)))/\Below w.heap.size w wr) (fun _ v _=>s.size - (intOf v).toNat)
 case atStart=>exact ⟨0,by omega,rfl,World.ownsRow_nil _ _ _ _,Br _⟩
 case round =>
  obtain ⟨k,hk,rfl,ab,hb⟩:=hrel
  by_cases aj:k<s.size
  ·have bh:(k:Int)<(s.size:Int):=by omega
   have h8:s[k].toNat<256:=s[k].toNat_lt
   have ds:=zd0 s[k]
   have HS:=Hy (zrU s k aj)
   have H:=Hy (An ab hb)
   clear ab hb
   obtain ⟨x,hx⟩:=Ex (s[k])
   rw [hx] at h8 ds HS
   have hw:((65:Int)<=(x.toNat:Int)/\(x.toNat:Int)<=90/\((zbg x).toNat:Int)=(x.toNat:Int)+32)\/((x.toNat:Int)<65/\(zbg x).toNat=x.toNat)\/((65:Int)<=(x.toNat:Int)/\(90:Int)<(x.toNat:Int)/\(zbg x).toNat=x.toNat):=by
    by_cases hu:65<=x.toNat/\x.toNat<=90
    ·rw [if_pos hu] at ds;exact .inl ⟨by omega,by omega,by omega⟩
    rw [if_neg hu] at ds;omega
   clear ds
   rcases hw with ⟨q1,q2,q3⟩ | ⟨q1,q3⟩ | ⟨q1,q2,q3⟩
   ·have HQ:=Hy q3
    clear q3
    go_wp2_with (at_builtin;refine zaj rfl (.tmp 23) (.tmp 25) 176 5 rfl w.heap.size 1 1 (.int .u8 0) Tryz.info5 underlying176 rfl De 1 [.int .u8 ((x.toNat:Int)+32)] rfl ?c0 _ k _ rfl _ rfl ?c3 H.o.1 ?c1 ?c2 H.o.2.size ?_)
    case c0=>first | rfl | (intro u hu;simp at hu;subst hu;rfl)
    case c1=>unfold maxLen;omega
    case c2=>omega
    case c3=>rfl
    exact zk4
   all_goals
    have HQ:=Hy q3
    clear q3
    go_wp2_with (at_builtin;refine zaj rfl (.tmp 23) (.tmp 25) 176 5 rfl w.heap.size 1 1 (.int .u8 0) Tryz.info5 underlying176 rfl De 1 [.int .u8 (x.toNat:Int)] rfl ?c0 _ k _ rfl _ rfl ?c3 H.o.1 ?c1 ?c2 H.o.2.size ?_)
    case c0=>first | rfl | (intro u hu;simp at hu;subst hu;rfl)
    case c1=>unfold maxLen;omega
    case c2=>omega
    case c3=>rfl
    exact zk4
  obtain rfl:k=s.size:=by omega
  rw [List.take_of_length_le Om] at ab
  have hc:=zgH (P:=prog) (src:=176) (dst:=9) underlying176 underlying5 underlying9 ab
  have H:=Hy hb
  clear hb ab
  go_wp2
  go_ret
  exact ⟨rfl,H.o⟩
theorem zrV (r:List Av) (T:Bs) (j k:Nat) (h:j<k) (hk:k<=r.length):(r.take (j+1)).any (fun q=>za q.1==za T)=((r.take j).any (fun q=>za q.1==za T) || (za (r[j]'Om).1==za T)):=by
 rw [zgM (fun q:Av=>za q.1==za T) r j Om]
theorem zrW {p:Av->Bool} {j k:Nat} (h:j<=k) (h1:(r.take j).any p=true):(r.take k).any p=true:=by
 rw [List.any_eq_true] at h1 ⊢
 obtain ⟨x,hx,hp⟩:=h1
 refine ⟨x,?_,hp⟩
 have:r.take j=(r.take k).take j:=by rw [List.take_take,Nat.min_eq_left h]
 rw [this] at hx
 exact List.mem_of_mem_take hx
theorem zlk (v:Value) (d:List (List Av)) (hs:∀ r∈d,∀ p∈r,p.1.length<=140737488355328) (w:World) (h:zb9 w v d) :
  Calls prog 123 #[v] w (zig (ckD d) w):=by
 have HA:=Hy h
 obtain ⟨a,c,hv,bM,_⟩:=id h
 subst hv
 clear h
 by_cases h0:32<d.length
 ·have H:=Hy (zla d h0)
  have h1:(32:Int)<(d.length:Int):=by omega
  clear h0
  go_enter func123,ntmps123
  go_wp2
  go_ret
  exact zdP H.o (Br _)
 have h1:(d.length:Int)<=32:=by omega
 have HB:=Hy (zlb d Om)
 have HG:=Hy (zlc d Om)
 have HS:=Hy hs
 clear h0 hs
 go_enter func123,ntmps123
 go_wp2
 go_loopw [3] (fun v wr=>∃ i:Nat,i<=d.length/\v=.int .i64 (i:Nat)/\Below w.heap.size w wr/\(d.take i).all prL=true) (fun v _=>d.length - (intOf v).toNat)
 case atStart=>exact ⟨0,by omega,rfl,Br _,rfl⟩
 case round =>
  obtain ⟨i,hi,rfl,hb,af⟩:=hrel
  by_cases aj:i<d.length
  ·obtain ⟨a',c',hv,_,ae⟩:=HA.o
   injection hv with dl f7 ep
   subst dl ep
   obtain ⟨g,o,u,rfl,hg,c1w,cH⟩:=ae i aj
   have c1:=(hb.cell (p:=⟨g,_,none⟩) hg).trans c1w
   have cW:(i:Int)<(d.length:Int):=by omega
   have Eo:=Hy (HB.o i aj)
   have HT:=Hy (fun h=>zld prL d i aj af h)
   have GI:=Hy (HS.o _ (List.getElem_mem aj))
   obtain ⟨r,hr⟩:=Ex (d[i])
   rw [hr] at cH Eo HT GI
   obtain ⟨ua,uc,hu,A1,_⟩:=id cH
   subst hu
   have HV:=Hy cH
   have cu:=Hy (An hg c1w)
   have HH:=Hy hb
   clear ae cH af hr c1w hb
   by_cases Lz:r.length<1\/8<r.length
   ·have H:=Hy (Eo.o (show prL r=false by simp only [prL,Bool.and_eq_false_iff,decide_eq_false_iff_not];omega))
    have GJ:(r.length:Int)<1\/(1<=(r.length:Int)/\(8:Int)<(r.length:Int)):=by omega
    clear Lz
    rcases GJ with q1 | ⟨q1,q2⟩
    all_goals
     go_wp2
     go_ret
     exact zdP H.o HH.o
   have q1:(1:Int)<=(r.length:Int):=by omega
   have q2:(r.length:Int)<=8:=by omega
   have HP:=Hy (show prL r=pgL [] r by simp only [prL,Bool.and_eq_true,decide_eq_true_eq];rw [show decide (1<=r.length)=true by simp;omega,show decide (r.length<=8)=true by simp;omega];rfl)
   clear Lz
   go_wp2
   go_loopw [4] (fun v wr=>∃ k:Nat,k<=r.length/\v=.int .i64 (k:Nat)/\Below w.heap.size w wr/\pgL (r.take k) (r.drop k)=prL r) (fun v _=>r.length - (intOf v).toNat)
   case atStart=>exact ⟨0,by omega,rfl,HH.o,by rw [HP.o];rfl⟩
   case round =>
    obtain ⟨k,hk,rfl,hb,hinv⟩:=hrel
    have c1:=(hb.cell (p:=⟨g,_,none⟩) cu.o.1).trans cu.o.2
    by_cases cZ:k<r.length
    ·have bh:(k:Int)<(r.length:Int):=by omega
     obtain ⟨a2,c2,hv,_,bG⟩:=HV.o
     injection hv with dl f7 ep
     subst dl ep
     obtain ⟨g2,o2,rfl,cf,aP,cI⟩:=bG k cZ
     have e1:=(hb.cell (p:=⟨g2,_,none⟩) cf).trans aP
     have e2:=(hb.cell (p:=⟨g2,_,none⟩) cf).trans cI
     rw [zk7 r k cZ] at hinv
     have oe:=GI.o _ (List.getElem_mem cZ)
     obtain ⟨T,hT⟩:=Ex (r[k].1)
     obtain ⟨V,mG⟩:=Ex (r[k].2)
     have hw:=zk9 r[k]
     have t7:twL (r.take k) r[k]=(r.take k).any (fun q=>za q.1==za T):=by rw [twL,hT]
     rw [hT,mG] at hw
     rw [hT] at e1 aP oe
     rw [mG] at e2 cI
     have eS:=Hy (zn2 ⟨T.toArray⟩ (show (⟨T.toArray⟩:ByteArray).size<=_ from oe))
     change Hd (∀ w,Calls prog _ _ w (za1 (tyL T) w)) at eS
     obtain ⟨bx,aD⟩:=Ex wr.heap.size
     obtain ⟨W2,aL⟩:=Ex (wr.alloc (.cells #[.string ⟨T.toArray⟩,.string ⟨V.toArray⟩] 144))
     have aw:W2.heap[bx]?=some (.cells #[.string ⟨T.toArray⟩,.string ⟨V.toArray⟩] 144 (0,0)):=by rw [<- aL,<- aD];exact heap_alloc_new wr _
     have ax:Below w.heap.size w W2:=by rw [<- aL];exact hb.alloc hb.size _
     have d1:=zq aw 0 _ rfl
     have d2:=zq aw 1 _ rfl
     have d3:=(ax.cell (p:=⟨g,_,none⟩) cu.o.1).trans cu.o.2
     rcases hw with ⟨aS,hw⟩ | ⟨aS,f8,bL,t8⟩
     ·rw [aS,Bool.false_and,Bool.false_and] at hinv
      have H:=Hy (An ax (Eo.o hinv.symm))
      clear hinv hb bG aS t7 hT mG aw ax aP cI oe
      rcases hw with hw | ⟨hw,AX⟩ | ⟨hw,bL,t8⟩
      ·rw [hw] at eS
       exact zif
      ·rw [hw] at eS
       have dS:(V.length:Int)<1:=by rw [AX];decide
       clear AX
       exact zif
      rw [hw] at eS
      have AY:(256:Int)<(V.length:Int):=by omega
      clear bL t8
      exact zif
     rw [aS,Bool.true_and] at hinv
     rw [f8] at eS
     have hJ:(1:Int)<=(V.length:Int):=by have:=List.length_pos_iff.2 bL;omega
     have AY:(V.length:Int)<=256:=by omega
     have HI:=Hy (An hinv t7)
     have fp:=Hy (An ax (An aw (zc1 HV.o ax)))
     have HTs:=Hy oe
     clear hinv t7 hb bG aS hT mG aw ax aP cI oe f8 bL t8
     go_wp2_with fail
     refine (eS.o _).mono ?_
     rintro e w2 ⟨rfl,bL⟩
     obtain rfl:=bL.symm
     go_wp2
     go_loopw [6] (fun v wr=>∃ j:Nat,j<=k/\v=.int .i64 (j:Nat)/\Below W2.heap.size W2 wr/\(r.take j).any (fun q=>za q.1==za T)=false) (fun v _=>k - (intOf v).toNat)
     case atStart=>exact ⟨0,by omega,rfl,Br _,rfl⟩
     case round =>
      obtain ⟨j,hj,rfl,hb,cj⟩:=hrel
      have z1:=zi fp.o.2.1
      have f1:=(hb.cell (p:=⟨bx,0,none⟩) z1).trans (zq fp.o.2.1 0 _ rfl)
      have f3:=(hb.cell (p:=⟨g,_,none⟩) (Nat.lt_of_lt_of_le cu.o.1 fp.o.1.size)).trans d3
      by_cases n9:j<k
      ·obtain ⟨a3,c3,hv,_,bG⟩:=fp.o.2.2
       injection hv with dl f7 ep
       subst dl ep
       obtain ⟨g3,o3,ub,fq,e3,_⟩:=bG j Om
       injection ub with ub
       injection ub with hv4 hv5 _
       subst hv4 hv5
       have A3:(j:Int)<(r.length:Int):=by omega
       have fB:(j:Int)<(k:Int):=by omega
       have bm:=zrV r T j k n9 Om
       rw [cj,Bool.false_or] at bm
       have GK:=GI.o _ (List.getElem_mem (show j<r.length by omega))
       obtain ⟨U,hU⟩:=Ex ((r[j]'Om).1)
       rw [hU] at e3 bm GK
       have f2:=(hb.cell (p:=⟨g2,_,none⟩) fq).trans e3
       obtain ⟨q,hq⟩:=Ex (za U==za T)
       rw [hq] at bm
       have zg:=Nat.lt_of_lt_of_le (Nat.lt_of_lt_of_le cu.o.1 fp.o.1.size) hb.size
       have qL:=Nat.lt_of_lt_of_le fq hb.size
       have zb:=Nat.lt_of_lt_of_le z1 hb.size
       have LB:=Hy (zb4 ⟨U.toArray⟩ (show (⟨U.toArray⟩:ByteArray).size<=_ from GK))
       change Hd (∀ w,Calls prog _ _ w (zG (za U) w)) at LB
       have wq:=Hy (zb4 ⟨T.toArray⟩ (show (⟨T.toArray⟩:ByteArray).size<=_ from HTs.o))
       change Hd (∀ w,Calls prog _ _ w (zG (za T) w)) at wq
       have H:=Hy (An hb bm)
       clear hb cj bm bG hU GK e3
       go_wp2
       go_region_held3 (fun w'=>w'.cell? ⟨g,o+i,none⟩=some (.slice (some ⟨g2,o2,none⟩) r.length uc)/\w'.cell? ⟨g2,o2+j*2,none⟩=some (.string ⟨U.toArray⟩)/\w'.cell? ⟨bx,0,none⟩=some (.string ⟨T.toArray⟩)) (first | exact ⟨cg,dK,kB⟩ | exact ⟨f3,f2,f1⟩ | go_keep)
        (first | (go_at_call_of 82 (Value.string ⟨U.toArray⟩);refine (LB.o _).mono ?_;rintro en w5 ⟨rfl,ai⟩;have aQ:Below wr.heap.size wr w5:=(by first | exact aQ.trans (ai.mono aQ.size) | exact (Br wr).drew.trans ai);have cg:=(aQ.cell (p:=⟨g,_,none⟩) zg).trans f3;have dK:=(aQ.cell (p:=⟨g2,_,none⟩) qL).trans f2;have kB:=(aQ.cell (p:=⟨bx,_,none⟩) zb).trans f1) | (go_at_call_of 82 (Value.string ⟨T.toArray⟩);refine (wq.o _).mono ?_;rintro en w5 ⟨rfl,ai⟩;have aQ:Below wr.heap.size wr w5:=(by first | exact aQ.trans (ai.mono aQ.size) | exact (Br wr).drew.trans ai);have cg:=(aQ.cell (p:=⟨g,_,none⟩) zg).trans f3;have dK:=(aQ.cell (p:=⟨g2,_,none⟩) qL).trans f2;have kB:=(aQ.cell (p:=⟨bx,_,none⟩) zb).trans f1))
       have H6:=Hy (H.o.1.trans (aQ.mono H.o.1.size))
       clear aQ ai
       cases q
       ·go_wp2
        refine ⟨⟨j+1,by omega,by go_num,H6.o,H.o.2⟩,by simp [intOf];omega⟩
       go_wp2
       go_ret
       refine zdP (Eo.o ?_).symm.symm (fp.o.1.trans (H6.o.mono fp.o.1.size))
       have h9:=HI.o.1
       rw [HI.o.2,zrW (k:=k) Om H.o.2] at h9
       simpa using h9.symm
      obtain rfl:j=k:=by omega
      have h9:=HI.o.1
      rw [HI.o.2,cj] at h9
      have H:=Hy (An (fp.o.1.trans (hb.mono fp.o.1.size)) (show pgL (r.take (j+1)) (r.drop (j+1))=prL r by simpa using h9))
      clear hb cj h9
      go_wp2
      refine ⟨⟨j+1,by omega,by go_num,H.o.1,H.o.2⟩,by simp [intOf];omega⟩
    obtain rfl:k=r.length:=by omega
    rw [zk8] at hinv
    have H:=Hy (An hb (HT.o hinv.symm))
    clear hb hinv
    go_wp2
    refine ⟨⟨i+1,by omega,by go_num,H.o.1,H.o.2⟩,by simp [intOf];omega⟩
  obtain rfl:i=d.length:=by omega
  exact zk5
theorem zrX (sep:UInt8) (m:Nat) (l:List (Bs)) (h:∀ x∈l,x.length<=m) (f:Bool):(jnL sep f l).length<=(m+1)*l.length:=by
 induction l generalizing f with
 | nil=>simp [jnL]
 | cons x r ih =>
  have h1:=h x Sm
  have h2:=ih (fun y hy=>h y (by simp [hy])) false
  rw [jnL,List.length_append,List.length_append,List.length_cons,Nat.mul_add]
  have:(if f=true then ([] : Bs) else [sep]).length<=1:=by split <;> simp
  omega
theorem zrY (h:prL r=true):(ptL r).length<=6672:=by
 obtain ⟨h1,h2,h3⟩:=zcv h
 have:=zrX 43 833 (r.map avL) (fun x hx=>by obtain ⟨p,hp,rfl⟩:=List.mem_map.1 hx;exact zrT (h3 p hp)) true
 rw [List.length_map] at this
 rw [ptL]
 have:834*r.length<=834*8:=Nat.mul_le_mul_left _ h2
 omega
theorem zll (v:Value) (r:List Av) (hr:r.length<=8) (aS:∀ p∈r,zbH p=true) (w:World) (h:zb8 w v r) :
  Calls prog 92 #[v] w (zG (ptL r) w):=by
 have HV:=Hy (An h aS)
 obtain ⟨a,c,hv,bM,_⟩:=id h
 subst hv
 have iz:(r.length:Int)<=8:=by omega
 clear h aS
 go_enter func92,ntmps92
 go_wp2
 go_loopw [3,4] (fun s v wr=>∃ (k:Nat) (X:Bs),k<=r.length/\v=.int .i64 (k:Nat)/\s=.string ⟨X.toArray⟩/\Below w.heap.size w wr/\X.length<=834*k/\X++jnL 43 (decide (k=0)) ((r.map avL).drop k)=ptL r) (fun _ v _=>r.length - (intOf v).toNat)
 case atStart=>exact ⟨0,[],by omega,rfl,rfl,Br _,by simp,rfl⟩
 case round =>
  obtain ⟨k,X,hk,rfl,rfl,hb,hX,hinv⟩:=hrel
  by_cases cZ:k<r.length
  ·have bh:(k:Int)<(r.length:Int):=by omega
   obtain ⟨a2,c2,hv,_,bG⟩:=HV.o.1
   injection hv with dl f7 ep
   subst dl ep
   obtain ⟨g,o,rfl,hg,aP,cI⟩:=bG k cZ
   have e1:=(hb.cell (p:=⟨g,_,none⟩) hg).trans aP
   have e2:=(hb.cell (p:=⟨g,_,none⟩) hg).trans cI
   have cH:=zeh (HV.o.2 _ (List.getElem_mem cZ))
   rw [ze9 43 (r.map avL) k (by simpa using cZ)] at hinv
   simp only [List.getElem_map] at hinv
   obtain ⟨T,hT⟩:=Ex (r[k].1)
   obtain ⟨V,mG⟩:=Ex (r[k].2)
   obtain ⟨EV,pV⟩:=Ex (esL V)
   have dj:avL r[k]=T++61 :: EV:=by rw [avL,hT,mG,pV]
   rw [hT] at e1 cH
   rw [mG] at e2 cH
   rw [dj] at hinv
   have HE:=Hy (fun w'=>zww ⟨V.toArray⟩ (by show V.length<=_;have:=cH.2.2.1;omega) w')
   change Hd (∀ w',Calls prog _ _ w' (zG (esL V) w')) at HE
   rw [pV] at HE
   have jo:=cH.1
   have hEl:EV.length<=768:=by rw [<- pV];exact Nat.le_trans (zf3 true V) (by have:=cH.2.2.1;omega)
   have qK:∃ X':Bs,(¬ 0<k/\X'=X\/0<k/\X'=X++[43])/\X'.length<=834*k+1/\(X'++(T++[61]++EV))++jnL 43 (decide (k+1=0)) ((r.map avL).drop (k+1))=ptL r:=by
    by_cases cX:k=0
    ·rw [if_pos cX,List.nil_append] at hinv
     exact ⟨X,.inl ⟨by omega,rfl⟩,by omega,by rw [<- hinv];simp⟩
    rw [if_neg cX] at hinv
    exact ⟨_,.inr ⟨by omega,rfl⟩,by simp;omega,by rw [<- hinv];simp⟩
   obtain ⟨X',i8,A2,fA⟩:=qK
   have H:=Hy (An hb (An A2 fA))
   have zg:=Nat.lt_of_lt_of_le hg hb.size
   have oh:¬ (9223372036854775807<X.length+1):=by omega
   clear hb hinv hX A2 fA bG cH dj hT mG pV aP cI
   rcases i8 with ⟨cX,rfl⟩ | ⟨cX,rfl⟩
   ·have rX:¬ (9223372036854775807<X'.length+T.length):=by have:=H.o.2.1;omega
    have eF:¬ (9223372036854775807<X'.length+T.length+1):=by have:=H.o.2.1;omega
    have hl3:¬ (9223372036854775807<X'.length+T.length+1+EV.length):=by have:=H.o.2.1;omega
    go_wp2
    go_region_held3 (fun w'=>w'.cell? ⟨g,o+k*2,none⟩=some (.string ⟨T.toArray⟩)/\w'.cell? ⟨g,o+k*2+1,none⟩=some (.string ⟨V.toArray⟩)) (first | exact ⟨cg,dK⟩ | exact ⟨e1,e2⟩ | go_keep)
     (first | (go_at_call 130;refine (HE.o _).mono ?_;rintro en w5 ⟨rfl,ai⟩;have aQ:Below wr.heap.size wr w5:=(Br wr).drew.trans ai;have cg:=(aQ.cell (p:=⟨g,_,none⟩) zg).trans e1;have dK:=(aQ.cell (p:=⟨g,_,none⟩) zg).trans e2))
    have H6:=Hy (H.o.1.trans (aQ.mono H.o.1.size))
    clear aQ ai
    go_wp2
    refine ⟨⟨k+1,X'++(T++[61]++EV),by omega,by go_num,?_,H6.o,?_,H.o.2.2⟩,by simp [intOf];omega⟩
    ·rw [show (⟨#[61]⟩:ByteArray)=⟨[61].toArray⟩ from rfl,zaE,zaE,zaE];simp
    have:=H.o.2.1;simp;omega
   have rX:¬ (9223372036854775807<X.length+1+T.length):=by have:=H.o.2.1;simp at this;omega
   have eF:¬ (9223372036854775807<X.length+1+T.length+1):=by have:=H.o.2.1;simp at this;omega
   have hl3:¬ (9223372036854775807<X.length+1+T.length+1+EV.length):=by have:=H.o.2.1;simp at this;omega
   go_wp2
   go_region_held3 (fun w'=>w'.cell? ⟨g,o+k*2,none⟩=some (.string ⟨T.toArray⟩)/\w'.cell? ⟨g,o+k*2+1,none⟩=some (.string ⟨V.toArray⟩)) (first | exact ⟨cg,dK⟩ | exact ⟨e1,e2⟩ | go_keep)
    (first | (go_at_call 130;refine (HE.o _).mono ?_;rintro en w5 ⟨rfl,ai⟩;have aQ:Below wr.heap.size wr w5:=(Br wr).drew.trans ai;have cg:=(aQ.cell (p:=⟨g,_,none⟩) zg).trans e1;have dK:=(aQ.cell (p:=⟨g,_,none⟩) zg).trans e2))
   have H6:=Hy (H.o.1.trans (aQ.mono H.o.1.size))
   clear aQ ai
   go_wp2
   refine ⟨⟨k+1,(X++[43])++(T++[61]++EV),by omega,by go_num,?_,H6.o,?_,H.o.2.2⟩,by simp [intOf];omega⟩
   ·rw [show (⟨#[61]⟩:ByteArray)=⟨[61].toArray⟩ from rfl,show (⟨#[43]⟩:ByteArray)=⟨[43].toArray⟩ from rfl,zaE,zaE,zaE,zaE];simp
   have:=H.o.2.1;simp at this ⊢;omega
  obtain rfl:k=r.length:=by omega
  rw [show r.length=(r.map avL).length by simp,zfa,List.append_nil] at hinv
  subst hinv
  have H:=Hy hb
  clear hb
  go_wp2
  go_ret
  exact ⟨rfl,H.o⟩
theorem zrZ (v:Value) (d:List (List Av)) (hs:∀ r∈d,∀ p∈r,p.1.length<=140737488355328) (w:World) (h:zb9 w v d) :
  Calls prog 129 #[v] w (zdo (puD d) w):=by
 have HC:=Hy (zlk v d hs w h)
 have HA:=Hy h
 obtain ⟨a,c,hv,bM,_⟩:=id h
 subst hv
 clear h hs
 by_cases h0:ckD d=0
 ·rw [h0] at HC
  obtain ⟨ef,j8⟩:=zf4 h0
  have HL:=Hy (zlh d h0)
  have HO:=Hy (zli d h0)
  have qJ:(d.length:Int)<=32:=by omega
  clear h0
  go_enter func129,ntmps129
  go_wp2_with fail
  refine HC.o.mono ?_
  rintro e w1 ⟨rfl,au⟩
  go_wp2
  go_loopw [5,6] (fun s v wr=>∃ (k:Nat) (X:Bs),k<=d.length/\v=.int .i64 (k:Nat)/\s=.string ⟨X.toArray⟩/\Below w.heap.size w wr/\X.length<=6700*k/\X++jnL 44 (decide (k=0)) ((d.map ptL).drop k)=nmL d) (fun _ v _=>d.length - (intOf v).toNat)
  case atStart=>exact ⟨0,[],by omega,rfl,rfl,au,by simp,rfl⟩
  case round =>
   obtain ⟨k,X,hk,rfl,rfl,hb,hX,hinv⟩:=hrel
   by_cases aj:k<d.length
   ·obtain ⟨a',c',hv,_,ae⟩:=HA.o
    injection hv with dl f7 ep
    subst dl ep
    obtain ⟨g,o,u,rfl,hg,c1w,cH⟩:=ae k aj
    have c1:=(hb.cell (p:=⟨g,_,none⟩) hg).trans c1w
    have bh:(k:Int)<(d.length:Int):=by omega
    have wt:=j8 _ (List.getElem_mem aj)
    obtain ⟨j9,iy,A0⟩:=zcv wt
    have dN:=zrY wt
    have HP:=Hy (fun w' (co:Below w.heap.size w w')=>zll u d[k] iy A0 w' (zc1 cH co))
    rw [ze9 44 (d.map ptL) k (by simpa using aj)] at hinv
    simp only [List.getElem_map] at hinv
    obtain ⟨P,hP⟩:=Ex (ptL d[k])
    rw [hP] at HP hinv dN
    obtain ⟨ua,uc,hu,_,_⟩:=cH
    subst hu
    have oh:¬ (9223372036854775807<X.length+1):=by omega
    have rX:¬ (9223372036854775807<X.length+P.length):=by omega
    have eF:¬ (9223372036854775807<X.length+1+P.length):=by omega
    have i8:(¬ 0<k/\(X++P)++jnL 44 (decide (k+1=0)) ((d.map ptL).drop (k+1))=nmL d)\/(0<k/\(X++[44]++P)++jnL 44 (decide (k+1=0)) ((d.map ptL).drop (k+1))=nmL d):=by
     by_cases cX:k=0
     ·rw [if_pos cX,List.nil_append,<- List.append_assoc] at hinv
      exact .inl ⟨by omega,hinv⟩
     rw [if_neg cX,<- List.append_assoc,<- List.append_assoc] at hinv
     exact .inr ⟨by omega,hinv⟩
    have H:=Hy (An hb (An hX dN))
    clear hb hinv hX ae hP j9 iy A0 wt dN c1w
    rcases i8 with ⟨cX,hi⟩ | ⟨cX,hi⟩
    ·have HI:=Hy hi
     clear hi
     go_wp2_with fail
     refine (HP.o _ H.o.1).mono ?_
     rintro e w2 ⟨rfl,ak⟩
     have H2:=Hy (H.o.1.trans (ak.mono H.o.1.size))
     clear ak
     go_wp2
     refine ⟨⟨k+1,X++P,by omega,by go_num,by rw [zaE],H2.o,?_,HI.o⟩,by simp [intOf];omega⟩
     have:=H.o.2;simp;omega
    have HI:=Hy hi
    clear hi
    go_wp2_with fail
    refine (HP.o _ H.o.1).mono ?_
    rintro e w2 ⟨rfl,ak⟩
    have H2:=Hy (H.o.1.trans (ak.mono H.o.1.size))
    clear ak
    go_wp2
    refine ⟨⟨k+1,X++[44]++P,by omega,by go_num,by rw [show (⟨#[44]⟩:ByteArray)=⟨[44].toArray⟩ from rfl,zaE,zaE],H2.o,?_,HI.o⟩,by simp [intOf];omega⟩
    have:=H.o.2;simp;omega
   obtain rfl:k=d.length:=by omega
   rw [show d.length=(d.map ptL).length by simp,zfa,List.append_nil] at hinv
   subst hinv
   have H:=Hy hb
   clear hb
   exact zk2
 have HR:=Hy (zlg d h0)
 obtain ⟨n,hn⟩:=Ex (ckD d)
 rw [hn] at HC HR h0
 have hq:((n:Int) != 0)=true:=by simp;omega
 clear h0 hn
 go_enter func129,ntmps129
 exact zk6
end Go.Proofs.YtijglbolppkefaaGreatDoor
