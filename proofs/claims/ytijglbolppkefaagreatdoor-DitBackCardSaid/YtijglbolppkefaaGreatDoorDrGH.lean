/- A part in its normal form, the. -/
import Derived.Test.YtijglbolppkefaaGreatDoorMDrCE
import Derived.Test.YtijglbolppkefaaGreatDoorDqC
set_option linter.unusedVariables false
set_option linter.unusedSimpArgs false
set_option maxHeartbeats 25600000
set_option maxRecDepth 100000
namespace Go.Proofs.YtijglbolppkefaaGreatDoor
open Go.Proofs.Tryz
open Go Go.RowKit Go.Proofs.BerK Go.Proofs.MemK Go.Proofs.UtfK
variable {o : Option (List Av)} {e : TypeId} {w w' : World} {v : Value} {B cap g n : Nat} {O : List Av} {a b : Bs} {D : List (List Av)}
theorem zir {p:Prop} (h:p:=by
 go_wp2_with fail
 go_quiet (fail)
 obtain ⟨W8,dU⟩:=Ex (wr.drewN nq)
 rw [dU]
 have ow:Below W7.heap.size W7 W8:=by rw [<- dU];exact zae iE.o nq
 clear dU iE
 have iE:=Hy ow
 clear ow
 have jp:=Hy (zgO wH.o iE.o)
 have jG:=Ob H7.o.1 iE.o
 have lX:=Hy jG
 clear jG
 go_wp2_with (at_builtin;refine zaf rfl (.tmp 47) (.tmp 50) 140 144 rfl W8.heap.size 2 32 (.agg #[.string ByteArray.empty,.string ByteArray.empty]) Tryz.dninfo144 underlying140 rfl De (.slice none 0 0) 0 [] rfl (World.ownsRow_nil _ _ _ _) _ k (avc (O.take k)) rfl ?c3 (zdf _) ?c1 ?c2 Lr ?_)
 case c3=>exact ztc jp.o k Om
 case c1=>unfold maxLen;omega
 case c2=>omega
 intro v1 w1 g1 g2 g3
 have o1:=zen (O:=O.take k) g1 (by rw [List.length_take];omega) Sm
 obtain ⟨a1,z1,rfl⟩:=zh o1
 have au:=zl5 g2
 have hq:=zao (Ob lX.o au)
 have q0:=hq.1
 have q1:=hq.2
 have H1:=Hy (An o1 au)
 have rX:(O.take k).length<=8:=by rw [List.length_take];omega
 clear g1 g2 g3 o1 au hq
 go_wp2_with (at_builtin;refine zaj rfl (.tmp 52) (.tmp 54) 140 144 rfl W8.heap.size 2 32 (.agg #[.string ByteArray.empty,.string ByteArray.empty]) Tryz.dninfo144 underlying140 rfl De 1 [.string ⟨LT.toArray⟩,.string ⟨FV.toArray⟩] rfl ?c0 _ (O.take k).length _ rfl _ rfl ?c3 H1.o.1 ?c1 ?c2 H1.o.2.size ?_)
 case c0=>intro u hu;simp at hu;rcases hu with rfl | rfl <;> rfl
 case c1=>unfold maxLen;omega
 case c2=>omega
 case c3=>first | rfl | simp
 intro v2 w2 g1 g2
 have o2:=zen (O:=O.take k++[(LT,FV)]) g1 So (by rw [zde];rfl)
 obtain ⟨a2,z2,rfl⟩:=zh o2
 have H2:=Hy (An o2 (H1.o.2.trans g2))
 have eF:(O.take k++[(LT,FV)]).length<=9:=by simp;omega
 clear g1 g2 o2 q0 q1
 go_wp2_with (at_builtin;refine zaf rfl (.tmp 56) (.tmp 59) 140 144 rfl W8.heap.size 2 32 (.agg #[.string ByteArray.empty,.string ByteArray.empty]) Tryz.dninfo144 underlying140 rfl De _ (O.take k++[(LT,FV)]).length _ rfl H2.o.1 _ (O.length - k) (avc (O.drop k)) rfl ?c3 (zdf _) ?c1 ?c2 H2.o.2.size ?_)
 case c3=>first | exact ztd (zgO jp.o H2.o.2) k _ Om | exact zte (O:=O) _ k Om | exact ztf (O:=O) _ k Om
 case c1=>unfold maxLen;omega
 case c2=>omega
 intro v3 w3 g1 g2 g3
 have o3:=zen (O:=O.take k++[(LT,FV)]++O.drop k) g1 So (zde _ _).symm
 have aF:(O.take k++[(LT,FV)]).length=k+1:=by simp;omega
 have aK:=zbm H2.o.2 H2.o.2.size H2.o.1 (by first | exact g2 | (rw [aF];exact g2))
 have et:inO r (i+1)=O.take k++[(LT,FV)]++O.drop k:=by rw [H.o.2.2.1,zl2,HK.o]
 rw [<- et] at o3
 have bv:=iE.o.trans (aK.mono iE.o.size)
 have H9:=Hy (An (zaK o3 (Nat.le_trans dL.o.size iE.o.size)) (dL.o.trans (bv.mono dL.o.size)))
 clear g1 g2 g3 o3 aK et bv
 go_wp2
 exact ⟨⟨i+1,by omega,by go_num,H9.o.1,H9.o.2,jH.o⟩,by simp [intOf];omega⟩):p:=h
theorem zl1 {p:Prop} (h:p:=by
 subst hk
 rw [List.drop_length,Nat.sub_self]
 exact ⟨by simp [avc],.inr ⟨_,_,rfl,fun j u hj=>by simp [avc] at hj⟩⟩):p:=h
def plN (T:Bs):List Av->Nat
 | []=>0
 | q :: r=>if q.1<T then plN T r+1 else 0
theorem zs2 (T:Bs) (O:List Av):plN T O<=O.length:=by
 induction O with
 | nil=>exact Nat.le_refl _
 | cons q r ih=>unfold plN;split <;> simp <;> omega
theorem zl2 (p:Av) (O:List Av):zcG p O=O.take (plN p.1 O)++[p]++O.drop (plN p.1 O):=by
 induction O with
 | nil=>rfl
 | cons q r ih =>
  unfold zcG plN
  split
  ·rw [ih];simp
  simp
theorem zs3 (T:Bs) (O:List Av) (k:Nat) (h:k<plN T O) (hk:k<O.length):O[k].1<T:=by
 induction O generalizing k with
 | nil=>simp at hk
 | cons q r ih =>
  unfold plN at h
  split at h
  ·rename_i hq
   cases k with
   | zero=>exact hq
   | succ k=>exact ih k Om (by simpa using hk)
  omega
theorem zs4 (T:Bs) (O:List Av) (hk:plN T O<O.length):¬ (O[plN T O].1<T):=by
 induction O with
 | nil=>simp at hk
 | cons q r ih =>
  by_cases hq:q.1<T
  ·have e:plN T (q :: r)=plN T r+1:=by rw [plN,if_pos hq]
   have iC:plN T r<r.length:=by rw [e] at hk;simpa using hk
   have:(q :: r)[plN T (q :: r)]=r[plN T r]:=by simp [e]
   rw [this];exact ih iC
  have e:plN T (q :: r)=0:=by rw [plN,if_neg hq]
  have:(q :: r)[plN T (q :: r)]=q:=by simp [e]
  rw [this];exact hq
theorem zs5 (l:List Av) (p:Av) (o:List Av):zcK o (l++[p])=zcG p (zcK o l):=by simp [zcK]
theorem zl3 (l:List Av) (o:List Av):(zcK o l).length=l.length+o.length:=by
 have:=(zkd l o).length_eq
 simpa using this
def inO (r:List Av) (i:Nat):List Av:=zcK [] ((r.take i).map nmA)
theorem zs6 (r:List Av) (i:Nat) (h:i<r.length):inO r (i+1)=zcG (nmA r[i]) (inO r i):=by
 unfold inO
 rw [List.take_succ_eq_append_getElem h,List.map_append,List.map_cons,List.map_nil,zs5]
theorem zs7 (r:List Av) (i:Nat) (h:i<=r.length):(inO r i).length=i:=by
 unfold inO
 rw [zl3];simp;omega
theorem zs8 (r:List Av) (i:Nat) (h:i<r.length) (he:zah r[i].2=[]):ptO r=none:=by
 unfold ptO
 rw [if_pos]
 rw [List.any_eq_true]
 exact ⟨r[i],List.getElem_mem h,by rw [he];rfl⟩
theorem zs9 (r:List Av) (h:∀ i (hi:i<r.length),zah r[i].2≠[]):ptO r=some (inO r r.length):=by
 unfold ptO inO
 rw [if_neg,List.take_length]
 rw [List.any_eq_true]
 rintro ⟨p,hp,he⟩
 obtain ⟨i,hi,rfl⟩:=List.mem_iff_getElem.1 hp
 exact h i hi (List.isEmpty_iff.1 he)
def zis (o:Option (List Av)) (e:TypeId) (w:World) (en:Ending) (w':World):Prop :=
 match o with
 | none=>en=.returned (.tuple #[.slice none 0 0,.bool false])/\Below w.heap.size w w'
 | some Q=>∃ v,en=.returned (.tuple #[v,.bool true])/\zbn w' w.heap.size e v Q/\Below w.heap.size w w'
theorem zta (h:o=none) (hb:Below w.heap.size w w'):zis o e w (.returned (.tuple #[.slice none 0 0,.bool false])) w':=by subst h;exact ⟨rfl,hb⟩
theorem ztb {Q:List Av} (h:o=some Q) (h1:zbn w' w.heap.size e v Q) (hb:Below w.heap.size w w'):zis o e w (.returned (.tuple #[v,.bool true])) w':=by subst h;exact ⟨v,rfl,h1,hb⟩
theorem zl4 (h:zbn w B e (.slice (some ⟨g,0,none⟩) n cap) O) (k:Nat) (hk:k<O.length):w.cell? ⟨g,k*2,none⟩=some (.string ⟨O[k].1.toArray⟩):=by
 have:=h.cells (g:=g) rfl (k*2) _ (zbO O k hk).1
 rw [zjB] at this
 exact this
theorem ztc (h:zbn w B e (.slice (some ⟨g,0,none⟩) O.length cap) O) (k:Nat) (hk:k<=O.length):zbl w 2 (.slice (some ⟨g,0,none⟩) k cap) k (avc (O.take k)):=by
 rw [<- zop];exact znJ h k hk
theorem ztd (h:zbn w B e (.slice (some ⟨g,0,none⟩) O.length cap) O) (k c:Nat) (hk:k<=O.length):zbl w 2 (.slice (some ⟨g,k*2,none⟩) (O.length - k) c) (O.length - k) (avc (O.drop k)):=by
 rw [<- zoq];exact znK h k c hk
theorem zte {o:Nat} (c k:Nat) (hk:k=O.length):zbl w 2 (.slice (some ⟨g,o,none⟩) (O.length - k) c) (O.length - k) (avc (O.drop k)):=by
 exact zl1
theorem ztf {ad:Addr} (c k:Nat) (hk:k=O.length):zbl w 2 (.slice (some ad) 0 c) (O.length - k) (avc (O.drop k)):=by
 exact zl1
theorem zl5 (h:Chg (fun k=>some k=(Value.slice none 0 0).ownBlock) w w'):Below w.heap.size w w':=h.toBelow Lr (fun k _ hk=>by simp [Value.ownBlock] at hk)
theorem zen {xs:List Value} (h:w.ownsRow B e 2 v n xs) (h1:n=O.length) (h2:xs=avc O):zbn w B e v O:=by subst h1 h2;exact h
theorem ztg (h:a<b):Op.bytesLess a b=true:=by rw [zdX];simp [ltB,h]
theorem zth (h:¬ a<b):Op.bytesLess a b=false:=by rw [zdX];simp [ltB,h]
theorem zti (v:Value) (r:List Av) (hr:r.length<=8) (aS:∀ p∈r,zbH p=true) (w:World) (h:zb8 w v r) :
  Calls prog 128 #[v] w (zis (ptO r) 144 w):=by
 obtain ⟨ra,rc,hv,bM,ae⟩:=id h
 subst hv
 have HV:=Hy (An ae aS)
 have HN:=Hy (zs8 r)
 have HS:=Hy (zs9 r)
 have HI:=Hy (zs6 r)
 have HIl:=Hy (zs7 r)
 obtain ⟨R,hR⟩:=Ex (ptO r)
 rw [hR] at HN HS ⊢
 clear hR h ae aS
 go_enter func128,ntmps128
 go_wp2
 go_loopw [4,5] (fun o v wr=>∃ (i:Nat),i<=r.length/\v=.int .i64 (i:Nat)/\zbn wr w.heap.size 144 o (inO r i)/\Below w.heap.size w wr/\∀ j (hj:j<r.length),j<i->zah r[j].2≠[]) (fun _ v _=>r.length - (intOf v).toNat)
 case atStart=>exact ⟨0,by omega,rfl,World.ownsRow_nil _ _ _ _,Br _,fun j _ h=>by omega⟩
 case round =>
  obtain ⟨i,hi,rfl,ab,hb,aH⟩:=hrel
  have ib:=HIl.o i hi
  by_cases aj:i<r.length
  ·have cW:(i:Int)<(r.length:Int):=by omega
   obtain ⟨g,o,rfl,hg,aP,cI⟩:=HV.o.1 i aj
   have e1:=(hb.cell (p:=⟨g,_,none⟩) hg).trans aP
   have e2:=(hb.cell (p:=⟨g,_,none⟩) hg).trans cI
   have cH:=zeh (HV.o.2 _ (List.getElem_mem aj))
   have bm:=HI.o i aj
   have r8:=Hy (HN.o i aj)
   obtain ⟨T,hT⟩:=Ex (r[i].1)
   obtain ⟨V,hV⟩:=Ex (r[i].2)
   have aJ:nmA r[i]=(za T,zah V):=by unfold nmA;rw [hT,hV]
   rw [aJ] at bm
   rw [hT] at e1 cH
   rw [hV] at e2 cH r8
   have cV:=Hy (fun w=>zb4 ⟨T.toArray⟩ (show T.length<=_ by have:=cH.1;omega) w)
   change Hd (∀ w,Calls prog _ _ w (zG (za T) w)) at cV
   have ox:=Hy (fun w=>zoo ⟨V.toArray⟩ (show V.length<=_ by have:=cH.2.2.1;omega) w)
   change Hd (∀ w,Calls prog _ _ w (zG (zah V) w)) at ox
   obtain ⟨LT,Bd⟩:=Ex (za T)
   obtain ⟨FV,fE⟩:=Ex (zah V)
   rw [Bd] at cV bm
   rw [fE] at ox bm r8
   have Ek:=Hy (show zah r[i].2=FV by rw [hV,fE])
   have zg:=Nat.lt_of_lt_of_le hg hb.size
   obtain ⟨O,hO⟩:=Ex (inO r i)
   rw [hO] at bm ab ib
   have H:=Hy (An ab (An hb (An bm (An aH ib))))
   have hO8:O.length<=8:=by omega
   clear ab hb bm aH ib cH hT hV aJ Bd fE hO aP cI
   have e3:∀ ob,(wr.drew.alloc ob).cell? ⟨g,o+i*2,none⟩=some (.string ⟨T.toArray⟩):=fun ob=>(((Below.refl wr.drew.heap.size wr.drew).alloc Lr ob).cell (p:=⟨g,_,none⟩) zg).trans e1
   have e4:∀ ob,(wr.drew.alloc ob).cell? ⟨g,o+i*2+1,none⟩=some (.string ⟨V.toArray⟩):=fun ob=>(((Below.refl wr.drew.heap.size wr.drew).alloc Lr ob).cell (p:=⟨g,_,none⟩) zg).trans e2
   go_wp2
   go_region_held3 (fun w'=>w'.cell? ⟨g,o+i*2,none⟩=some (.string ⟨T.toArray⟩)/\w'.cell? ⟨g,o+i*2+1,none⟩=some (.string ⟨V.toArray⟩)) (first | exact ⟨cg,dK⟩ | exact ⟨e1,e2⟩ | exact ⟨kB _,GT _⟩ | exact ⟨e3 _,e4 _⟩ | exact ⟨cX,fM⟩ | exact ⟨iC _,lh _⟩ | exact ⟨(zc6 Be _ _ _ _ _).trans cX,(zc6 Be _ _ _ _ _).trans fM⟩ | exact ⟨(zc6 Bf _ _ _ _ _).trans cX,(zc6 Bf _ _ _ _ _).trans fM⟩ | exact ⟨(zc6 Bg _ _ _ _ _).trans (iC _),(zc6 Bg _ _ _ _ _).trans (lh _)⟩ | go_keep)
    (first | (go_at_call 82;refine (cV.o _).mono ?_;rintro en w5 ⟨rfl,ai⟩;have aQ:Below wr.heap.size wr w5:=(by first | exact (Br wr).drew.trans ai | exact ((Br wr).drew.alloc Lr _).trans (ai.mono Sm));have cg:=(aQ.cell (p:=⟨g,_,none⟩) zg).trans e1;have dK:=(aQ.cell (p:=⟨g,_,none⟩) zg).trans e2;have kB:∀ ob,(w5.alloc ob).cell? ⟨g,o+i*2,none⟩=some (.string ⟨T.toArray⟩):=(fun ob=>(((Below.refl w5.heap.size w5).alloc Lr ob).cell (p:=⟨g,_,none⟩) (Nat.lt_of_lt_of_le zg aQ.size)).trans cg);have GT:∀ ob,(w5.alloc ob).cell? ⟨g,o+i*2+1,none⟩=some (.string ⟨V.toArray⟩):=(fun ob=>(((Below.refl w5.heap.size w5).alloc Lr ob).cell (p:=⟨g,_,none⟩) (Nat.lt_of_lt_of_le zg aQ.size)).trans dK);have c7:=Hy aQ;clear aQ;try (have aw:w5.heap[wr.heap.size]?=some (.cells #[.string ⟨#[]⟩,.string ⟨#[]⟩] 144 (0,0)):=zj (heap_alloc_new wr.drew _) ai Sm;have bY:=Hy aw;clear aw);clear ai) | (go_at_call 151;refine (ox.o _).mono ?_;rintro en w6 ⟨rfl,az⟩;have cX:=(az.cell (p:=⟨g,o+i*2,none⟩) (by have:=c7.o.size;first | omega | (simp;omega))).trans (by first | exact cg | exact kB _);have fM:=(az.cell (p:=⟨g,o+i*2+1,none⟩) (by have:=c7.o.size;first | omega | (simp;omega))).trans (by first | exact dK | exact GT _);have LN:g<w6.heap.size:=(by have:=c7.o.size;have:=az.size;first | omega | (simp at this;omega));have Be:g≠w5.heap.size:=(by have:=c7.o.size;omega);have Bf:g≠wr.heap.size:=Om;have Bg:g≠w6.heap.size:=Om;have iC:∀ ob,(w6.alloc ob).cell? ⟨g,o+i*2,none⟩=some (.string ⟨T.toArray⟩):=(fun ob=>(((Below.refl w6.heap.size w6).alloc Lr ob).cell (p:=⟨g,_,none⟩) LN).trans cX);have lh:∀ ob,(w6.alloc ob).cell? ⟨g,o+i*2+1,none⟩=some (.string ⟨V.toArray⟩):=(fun ob=>(((Below.refl w6.heap.size w6).alloc Lr ob).cell (p:=⟨g,_,none⟩) LN).trans fM);have Et:Hd (Below wr.heap.size wr w6):=(by first | exact Hy (c7.o.trans (az.mono c7.o.size)) | exact Hy ((c7.o.alloc c7.o.size _).trans (az.mono (by have:=c7.o.size;first | omega | (simp;omega)))));(first | (have aw:w6.heap[w5.heap.size]?=some (.cells #[.string ⟨#[]⟩,.string ⟨#[]⟩] 144 (0,0)):=zj (heap_alloc_new w5 _) az Sm;have b0:=(zao aw).1;have b1:=(zao aw).2;have f0:=zc aw 0;have f1:=zc aw 1;have d9:=Hy aw;clear aw) | (have aw:w6.heap[wr.heap.size]?=some (.cells #[.string ⟨#[]⟩,.string ⟨#[]⟩] 144 (0,0)):=Ob bY.o az;have b0:=(zao aw).1;have b1:=(zao aw).2;have f0:=zc aw 0;have f1:=zc aw 1;have d9:=Hy aw;clear aw) | skip);clear az))
   all_goals
    first
     | (obtain ⟨W7,aT⟩:=Ex ((w6.setCell ⟨w5.heap.size,0,none⟩ (.string ⟨LT.toArray⟩)).setCell ⟨w5.heap.size,1,none⟩ (.string ⟨FV.toArray⟩));have aD:W7.heap[w5.heap.size]?=some (.cells #[.string ⟨LT.toArray⟩,.string ⟨FV.toArray⟩] 144 (0,0)):=(by rw [<- aT];exact zci d9.o _ _);have aR:Below wr.heap.size wr W7:=(by rw [<- aT];exact zcQ Et.o c7.o.size _ _);rw [aT];obtain ⟨bx,dC⟩:=Ex w5.heap.size;rw [dC] at aD ⊢;have H7:=Hy (An aD aR);clear aD aR aT dC)
     | (obtain ⟨W7,aT⟩:=Ex ((w6.setCell ⟨wr.heap.size,0,none⟩ (.string ⟨LT.toArray⟩)).setCell ⟨wr.heap.size,1,none⟩ (.string ⟨FV.toArray⟩));have aD:W7.heap[wr.heap.size]?=some (.cells #[.string ⟨LT.toArray⟩,.string ⟨FV.toArray⟩] 144 (0,0)):=(by rw [<- aT];exact zci d9.o _ _);have aR:Below wr.heap.size wr W7:=(by rw [<- aT];exact zcQ Et.o Lr _ _);rw [aT];obtain ⟨bx,dC⟩:=Ex wr.heap.size;rw [dC] at aD ⊢;have H7:=Hy (An aD aR);clear aD aR aT dC)
     | (obtain ⟨W7,aT⟩:=Ex (w6.alloc (.cells #[.string ⟨LT.toArray⟩,.string ⟨FV.toArray⟩] 144));have aD:W7.heap[w6.heap.size]?=some (.cells #[.string ⟨LT.toArray⟩,.string ⟨FV.toArray⟩] 144 (0,0)):=(by rw [<- aT];exact heap_alloc_new w6 _);have aR:Below wr.heap.size wr W7:=(by rw [<- aT];exact Et.o.alloc Et.o.size _);rw [aT];obtain ⟨bx,dC⟩:=Ex w6.heap.size;rw [dC] at aD ⊢;have H7:=Hy (An aD aR);clear aD aR aT dC)
   all_goals
    try clear cg dK kB GT
    try clear cX fM iC lh
    try clear b0 b1 f0 f1
    clear e1 e2 e3 e4
    have c0:=(zao H7.o.1).1
    have c1:=(zao H7.o.1).2
    by_cases wI:FV=[]
    ·have dS:=zio wI
     have HR:=Hy (r8.o wI)
     have dL:=Hy (H.o.2.1.trans (H7.o.2.mono H.o.2.1.size))
     clear wI
     go_wp2
     go_ret2
     exact zta HR.o dL.o
    have dS:=zip wI
    have jH:=Hy (show ∀ j (hj:j<r.length),j<i+1->zah r[j].2≠[] from fun j hj h=>by
     by_cases sd:j=i
     ·subst sd;rw [Ek.o];exact wI
     exact H.o.2.2.2.1 j hj Om)
    have lo:=zgO H.o.1 H7.o.2
    have dL:=Hy (H.o.2.1.trans (H7.o.2.mono H.o.2.1.size))
    clear wI
    rcases lo.2 with ⟨hv,h0⟩ | ⟨g2,cap,cur,hv,gb,cf,f9,_⟩
    ·have GU:O=[]:=List.eq_nil_of_length_eq_zero h0
     subst hv
     have LO:=Hy GU
     have HK:=Hy (show plN LT O=0 by rw [GU];rfl)
     have hOl0:O.length<=0:=by omega
     clear lo GU
     go_wp2
     go_loopw [7] (fun v wr=>v=.int .i64 0/\Below W7.heap.size W7 wr) (fun _ _=>0)
     case atStart=>exact ⟨rfl,Br _⟩
     case round =>
      obtain ⟨rfl,bz⟩:=hrel
      have iE:=Hy bz
      clear bz
      go_wp2_with fail
      go_quiet (fail)
      obtain ⟨W8,dU⟩:=Ex (wr.drewN nq)
      rw [dU]
      have ow:Below W7.heap.size W7 W8:=by rw [<- dU];exact zae iE.o nq
      clear dU iE
      have iE:=Hy ow
      clear ow
      have jG:=Ob H7.o.1 iE.o
      have lX:=Hy jG
      clear jG
      go_wp2_with (at_builtin;refine zaf rfl (.tmp 47) (.tmp 50) 140 144 rfl W8.heap.size 2 32 (.agg #[.string ByteArray.empty,.string ByteArray.empty]) Tryz.dninfo144 underlying140 rfl De (.slice none 0 0) 0 [] rfl (World.ownsRow_nil _ _ _ _) _ 0 (avc (O.take 0)) rfl ?c3 (zdf _) ?c1 ?c2 Lr ?_)
      case c3=>simp only [List.take_zero];exact zdu _ _
      case c1=>unfold maxLen;omega
      case c2=>omega
      intro v1 w1 g1 g2 g3
      have o1:=zen (O:=O.take 0) g1 (by rw [List.length_take];omega) Sm
      obtain ⟨a1,z1,rfl⟩:=zh o1
      have au:=zl5 g2
      have hq:=zao (Ob lX.o au)
      have q0:=hq.1
      have q1:=hq.2
      have H1:=Hy (An o1 au)
      have rX:(O.take 0).length<=8:=by rw [List.length_take];omega
      clear g1 g2 g3 o1 au hq
      go_wp2_with (at_builtin;refine zaj rfl (.tmp 52) (.tmp 54) 140 144 rfl W8.heap.size 2 32 (.agg #[.string ByteArray.empty,.string ByteArray.empty]) Tryz.dninfo144 underlying140 rfl De 1 [.string ⟨LT.toArray⟩,.string ⟨FV.toArray⟩] rfl ?c0 _ (O.take 0).length _ rfl _ rfl ?c3 H1.o.1 ?c1 ?c2 H1.o.2.size ?_)
      case c0=>intro u hu;simp at hu;rcases hu with rfl | rfl <;> rfl
      case c1=>unfold maxLen;omega
      case c2=>omega
      case c3=>first | rfl | simp
      intro v2 w2 g1 g2
      have o2:=zen (O:=O.take 0++[(LT,FV)]) g1 Sm (by rw [zde];rfl)
      obtain ⟨a2,z2,rfl⟩:=zh o2
      have H2:=Hy (An o2 (H1.o.2.trans g2))
      have eF:(O.take 0++[(LT,FV)]).length<=9:=by simp
      clear g1 g2 o2 q0 q1
      go_wp2_with (at_builtin;refine zaf rfl (.tmp 56) (.tmp 59) 140 144 rfl W8.heap.size 2 32 (.agg #[.string ByteArray.empty,.string ByteArray.empty]) Tryz.dninfo144 underlying140 rfl De _ (O.take 0++[(LT,FV)]).length _ rfl H2.o.1 _ (O.length - 0) (avc (O.drop 0)) rfl ?c3 (zdf _) ?c1 ?c2 H2.o.2.size ?_)
      case c3=>rw [LO.o];exact zdu _ _
      case c1=>unfold maxLen;omega
      case c2=>omega
      intro v3 w3 g1 g2 g3
      have o3:=zen (O:=O.take 0++[(LT,FV)]++O.drop 0) g1 (by simp;exact LO.o) (zde _ _).symm
      have aF:(O.take 0++[(LT,FV)]).length=1:=by simp
      have aK:=zbm H2.o.2 H2.o.2.size H2.o.1 (by first | exact g2 | (rw [aF];exact g2))
      have et:inO r (i+1)=O.take 0++[(LT,FV)]++O.drop 0:=by rw [H.o.2.2.1,zl2,HK.o]
      rw [<- et] at o3
      have bv:=iE.o.trans (aK.mono iE.o.size)
      have H9:=Hy (An (zaK o3 (Nat.le_trans dL.o.size iE.o.size)) (dL.o.trans (bv.mono dL.o.size)))
      clear g1 g2 g3 o3 aK et bv
      go_wp2
      exact ⟨⟨i+1,by omega,by go_num,H9.o.1,H9.o.2,jH.o⟩,by simp [intOf];omega⟩
    subst hv
    have wH:=Hy lo
    have gd:=Hy (An (zs3 LT O) (zs4 LT O))
    have GV:=zs2 LT O
    obtain ⟨K,hK⟩:=Ex (plN LT O)
    rw [hK] at gd GV
    have HK:=Hy hK
    have LP:O.length<=cap:=f9
    have Bh:=zi H7.o.1
    have bZ:=zi cf
    clear lo hK cf gb
    go_wp2
    go_loopw [7] (fun v wr=>∃ k:Nat,k<=K/\v=.int .i64 (k:Nat)/\Below W7.heap.size W7 wr) (fun v _=>K - (intOf v).toNat)
    case atStart=>exact ⟨0,by omega,rfl,Br _⟩
    case round =>
     obtain ⟨k,hk,rfl,bz⟩:=hrel
     have d0:=(bz.cell (p:=⟨bx,0,none⟩) Bh).trans c0
     have iE:=Hy bz
     by_cases se:k<K
     ·have Bi:k<O.length:=by omega
      have bh:(k:Int)<(O.length:Int):=by omega
      have d1:=(bz.cell (p:=⟨g2,k*2,none⟩) bZ).trans (zl4 wH.o k Bi)
      have jI:=ztg (gd.o.1 k se Bi)
      obtain ⟨OT,Bj⟩:=Ex (O[k].1)
      rw [Bj] at d1 jI
      clear bz Bj
      go_wp2_with fail
      go_quiet (fail)
      have eM:=Hy (zae iE.o nq)
      go_wp2
      exact ⟨⟨k+1,by omega,by go_num,eM.o⟩,by simp [intOf];omega⟩
     obtain rfl:k=K:=by omega
     by_cases Bi:k<O.length
     ·have bh:(k:Int)<(O.length:Int):=by omega
      have d1:=(bz.cell (p:=⟨g2,k*2,none⟩) bZ).trans (zl4 wH.o k Bi)
      have jI:=zth (gd.o.2 Bi)
      have dP:¬ cap=k:=by omega
      obtain ⟨OT,Bj⟩:=Ex (O[k].1)
      rw [Bj] at d1 jI
      clear bz Bj
      exact zir
     have bh:¬ ((k:Int)<(O.length:Int)):=by omega
     clear bz
     have dP:k=cap\/¬ k=cap:=Decidable.em _
     rcases dP with dP | dP
     ·subst dP
      exact zir
     have hck2:¬ cap=k:=fun e=>dP e.symm
     exact zir
  obtain rfl:i=r.length:=by omega
  have HR:=Hy (An (HS.o fun j hj=>aH j hj hj) (An ab hb))
  clear ab hb aH ib
  go_wp2
  go_ret2
  exact ztb HR.o.1 HR.o.2.1 HR.o.2.2
theorem ztj (D:List (List Av)) (i:Nat) (h:i<D.length) (hp:ptO D[i]=none):nmO (D.drop i)=none:=by rw [zO D i h,nmO,hp]
theorem ztk (D:List (List Av)) (i:Nat) (h:i<D.length) {q:List Av} (hp:ptO D[i]=some q):nmO (D.drop i)=(nmO (D.drop (i+1))).map (q :: ·):=by rw [zO D i h,nmO,hp]
def noO:Option (List (List Av))->Bs × Nat | none=>([],5) | some E=>puD E
theorem ztl {s:Bs} (h:rdD s=(D,0)):noD s=noO (nmO D):=by
 rw [zAc h];cases nmO D <;> rfl
theorem ztm {E:List (List Av)} (h:nmO D=some E) (hD:∀ r∈D,∀ p∈r,p.1.length<=64):∀ r∈E,∀ p∈r,p.1.length<=64:=by
 induction D generalizing E with
 | nil=>injection h with h;subst h;simp
 | cons r D ih =>
  rw [nmO] at h
  cases ho:ptO r with
  | none=>rw [ho] at h;cases h
  | some q =>
   rw [ho] at h
   simp only [Option.map_eq_some_iff] at h
   obtain ⟨Q,h1,rfl⟩:=h
   intro x hx p hp
   rcases List.mem_cons.1 hx with rfl | hx
   ·unfold ptO at ho
    split at ho
    ·cases ho
    injection ho with ho
    rw [<- ho] at hp
    have pY:=(zkd (r.map nmA) []).mem_iff.1 hp
    rw [List.append_nil] at pY
    obtain ⟨z,hz,rfl⟩:=List.mem_map.1 pY
    show (za z.1).length<=64
    rw [zdC]
    exact hD r Sm z hz
   exact ih h1 (fun x hx=>hD x (by simp [hx])) x hx p hp
theorem ztn {r q:List Av} (h:ptO r=some q):q.length=r.length:=by
 unfold ptO at h
 split at h
 ·cases h
 injection h with h;rw [<- h,zl3];simp
theorem zl6 (s:ByteArray) (w:World):Calls prog 91 #[.string s] w (zdo (noD s.data.toList) w):=by
 have HR:=Hy (zgQ s w)
 have HE:=Hy (fun D n h=>zqk (s:=s.data.toList) (D:=D) (n:=n) h)
 have HO:=Hy (fun D h=>ztl (s:=s.data.toList) (D:=D) h)
 have HQ:=Hy (fun D h=>zkl (s:=s.data.toList) (D:=D) h)
 obtain ⟨P,hP⟩:=Ex (rdD s.data.toList)
 rw [hP] at HR HE HO HQ
 clear hP
 obtain ⟨D,n⟩:=P
 by_cases hn:n=0
 ·subst hn
  obtain ⟨GW,sf⟩:=HQ.o D rfl
  have HN:=Hy (HO.o D rfl)
  have HD:=Hy sf
  obtain ⟨R,hR⟩:=Ex (noD s.data.toList)
  rw [hR] at HN ⊢
  clear hR sf HO HE HQ
  go_enter func91,ntmps91
  go_wp2_with fail
  refine HR.o.mono ?_
  rintro e w1 ⟨dv,rfl,hdn,au⟩
  obtain ⟨da,dc,Bk,Bl,eW⟩:=id hdn
  change dv=.slice da D.length dc at Bk
  subst Bk
  have pZ:=Hy (An eW au)
  clear hdn eW au
  go_wp2
  go_loopw [6,7] (fun o v wr=>∃ (i:Nat) (vs:List Value) (E:List (List Av)),i<=D.length/\v=.int .i64 (i:Nat)/\E.length=i/\zdz wr w1.heap.size 140 144 o vs E/\Below w1.heap.size w1 wr/\nmO D=(nmO (D.drop i)).map (E ++ ·)) (fun _ v _=>D.length - (intOf v).toNat)
  case atStart=>exact ⟨0,[],[],by omega,rfl,rfl,zor _ _ _ _,Br _,by rw [List.drop_zero];simp⟩
  case round =>
   obtain ⟨i,vs,E,hi,rfl,hE,bC,hb,hinv⟩:=hrel
   obtain ⟨ga,gc,rfl⟩:=zh bC.2.1
   by_cases aj:i<D.length
   ·have cW:(i:Int)<(D.length:Int):=by omega
    obtain ⟨g,o,u,rfl,hg,aP,cH⟩:=pZ.o.1 i aj
    have e1:=(hb.cell (p:=⟨g,o+i,none⟩) hg).trans aP
    have kH:=zc1 cH hb
    obtain ⟨p1,p2,p3⟩:=zcv (HD.o _ (List.getElem_mem aj))
    have iU:=Hy (zti u D[i] p2 p3 wr kH)
    have Bm:=Hy (ztj D i aj)
    have GX:=Hy (fun q=>ztk D i aj (q:=q))
    have iW:=Hy (fun q=>ztn (r:=D[i]) (q:=q))
    obtain ⟨ua,uc,hu,_⟩:=id kH
    subst hu
    obtain ⟨r,hr⟩:=Ex (D[i])
    rw [hr] at iU Bm GX iW e1 p2
    obtain ⟨ot,LQ⟩:=Ex (ptO r)
    rw [LQ] at iU Bm GX iW
    have H:=Hy (An bC (An hb (An hinv hE)))
    have hE32:E.length<=32:=by omega
    clear bC hb hinv hE cH kH p1 p3 hr LQ aP
    cases ot with
    | none =>
     have HI:=Hy (show R=([],5) by rw [HN.o,H.o.2.2.1,Bm.o rfl];rfl)
     change Hd (Calls prog _ _ wr fun en w'=>en=.returned (.tuple #[.slice none 0 0,.bool false])/\Below wr.heap.size wr w') at iU
     go_wp2_with fail
     refine iU.o.mono ?_
     rintro e w2 ⟨rfl,ak⟩
     have bw:=Hy (pZ.o.2.trans ((H.o.2.1.trans (ak.mono H.o.2.1.size)).mono pZ.o.2.size))
     clear ak
     go_wp2
     go_ret2
     exact zc8 (a:=[]) (n:=5) HI.o bw.o
    | some q =>
     have HI:=Hy (show nmO D=(nmO (D.drop (i+1))).map ((E++[q]) ++ ·) by
      rw [H.o.2.2.1,GX.o q rfl,Option.map_map];congr 1;funext x;simp)
     change Hd (Calls prog _ _ wr fun en w'=>∃ v,en=.returned (.tuple #[v,.bool true])/\zbn w' wr.heap.size _ v q/\Below wr.heap.size wr w') at iU
     go_wp2_with fail
     refine iU.o.mono ?_
     rintro e w2 ⟨qv,rfl,hq,ak⟩
     obtain ⟨qa,qc,rfl⟩:=zh hq
     have eB:=zgP H.o.1 ak
     have ia:=zos (B2:=w1.heap.size) H.o.1.2.1 hq Lr
     have HX:=Hy (An eB (An ia (An (H.o.2.1.trans (ak.mono H.o.2.1.size)) (show zbn w2 w1.heap.size _ _ q from zaK hq H.o.2.1.size))))
     clear eB ia ak hq
     go_wp2_with (at_builtin;refine zaM rfl (.tmp 34) (.tmp 36) 136 140 rfl w1.heap.size 1 24 (.slice none 0 0) Tryz.dninfo140 underlying136 rfl De [.slice qa q.length qc] rfl ?c0 _ E.length _ rfl _ rfl ?c3 HX.o.1.2.1 ?c1 ?c2 HX.o.2.2.1.size ?_)
     case c0=>first | rfl | (intro u hu;simp at hu;subst hu;rfl)
     case c1=>unfold maxLen;omega
     case c2=>omega
     case c3=>first | rfl | simp
     intro v' w' g1 g2 g3
     have hg:=zjC HX.o.1 HX.o.2.2.2 HX.o.2.1 g1 g2 g3
     have eO:=zbm HX.o.2.2.1 HX.o.2.2.1.size HX.o.1.2.1 g2
     have H9:=Hy (An hg eO)
     clear g1 g2 g3 hg eO
     go_wp2
     exact ⟨⟨i+1,vs++[.slice qa q.length qc],E++[q],by omega,by go_num,by simp [H.o.2.2.2],H9.o.1,H9.o.2,HI.o⟩,by simp [intOf];omega⟩
   obtain rfl:i=D.length:=by omega
   have ei:nmO D=some E:=by rw [hinv,List.drop_of_length_le Lr];simp [nmO]
   have dA:=ztm ei (fun r hr p hp=>by have:=(zeh ((zcv (HD.o r hr)).2.2 p hp)).1;exact this)
   have HC:=Hy (zrZ (.slice ga E.length gc) E (fun r hr p hp=>by have:=dA r hr p hp;omega) wr (zot bC))
   have HI:=Hy (show R=puD E by rw [HN.o,ei];rfl)
   have HB:=Hy (pZ.o.2.trans (hb.mono pZ.o.2.size))
   obtain ⟨pq,ir⟩:=Ex (puD E)
   rw [ir] at HC HI
   obtain ⟨X,m⟩:=pq
   clear bC hb hinv ei dA ir hE
   go_wp2_with fail
   refine HC.o.mono ?_
   rintro e w3 ⟨rfl,aK⟩
   have cx:=Hy (HB.o.trans (aK.mono HB.o.size))
   clear aK
   go_wp2
   go_ret2
   exact zc8 HI.o cx.o
 have hq:((n:Int) != 0)=true:=by rw [bne_iff_ne];omega
 have HI:=Hy (HE.o D n rfl hn)
 clear hn HO HE HQ
 go_enter func91,ntmps91
 go_wp2_with fail
 refine HR.o.mono ?_
 rintro e w1 ⟨dv,rfl,hdn,au⟩
 have HB:=Hy au
 clear hdn au
 go_wp2
 go_ret2
 exact zc8 (a:=[]) HI.o HB.o
end Go.Proofs.YtijglbolppkefaaGreatDoor
