/- Sets of texts: a map that holds. -/
import Derived.Test.YtijglbolppkefaaGreatDoorMDqJ
import Derived.Test.YtijglbolppkefaaGreatDoorSnAL
import Derived.Maps.OwnSet
import Derived.Maps.Views
import Derived.MapKept
import Derived.Test.YtijglbolppkefaaGreatDoorScAD
import Derived.Test.YtijglbolppkefaaGreatDoorMScQ
import Derived.Test.YtijglbolppkefaaGreatDoorMRuB
set_option linter.unusedVariables false
set_option linter.unusedSimpArgs false
set_option maxHeartbeats 25600000
set_option maxRecDepth 100000
namespace Go.Proofs.YtijglbolppkefaaGreatDoor
open Go.Proofs.Tryz
open Go Go.RowKit Go.Proofs.BerK Go.Proofs.MemK Go.Proofs.UtfK Go.Maps Go.WideMaps
variable {N : List (Bs)} {w w' : World} {b n : Nat}
theorem zoB {p:Prop} (h:p:=by
 go_enter func33,ntmps33
 go_wp2_with fail
 try rw [br.o]
 try go_wp2
 go_ret
 exact zB lB.o HX.o.2.2.1):p:=h
theorem zxo {P:Program} (t k e:TypeId) (ht:P.underlying t=some (.map k e)) (q:IntKind) (n:Int) (w:World):(Instr.makeMap t (some (.int q n))).run P w=.ok (.map (some w.heap.size)) (w.alloc (.map #[] 0)):=by
 simp [Instr.makeMap,run_underlying ht,asInt,asIntOf,Result.andThen]
def zgS (D:DataW Unit) (N:List (Bs)):Prop:=∀ s:Bs,Maps.has D (.string s)=inL N s
theorem zxp (w:World):(zeroValue 205).run prog w=.ok (.agg #[]) w:=by kernel_rfl
theorem zxq:zgS (.map []) []:=fun s=>rfl
theorem zxr {D:DataW Unit} {N':List (Bs)} {s:Bs} (hT:Tidy D) (h:zgS D N) (hN:∀ y,y∈N' ↔ y∈N\/y=s):zgS (D.put (.string s) (.agg [])) N':=by
 intro k
 by_cases e:k=s
 ·subst e
  rw [has_put_same hT.isMap zfU]
  exact (zdv.2 ((hN _).2 (.inr rfl))).symm
 rw [has_put_other (fun q=>e (by injection q)),h,Bool.eq_iff_iff,zdv,zdv,hN]
 simp [e]
def zeM (w:World) (b:Nat) (n:Nat) (N:List (Bs)):Prop :=
 ∃ D,w.ownsMap prog 9 (unitElem (H:=Unit)) b n D/\zgS D N
theorem zxs (h:zeM w b n N) (hb:w'.heap[b]? = w.heap[b]?):zeM w' b n N:=by
 obtain ⟨D,⟨es,clock,hq,F,oy,hD⟩,hN⟩:=h
 exact ⟨D,⟨es,clock,hb.trans hq,F,oy,hD⟩,hN⟩
theorem zxt {B:Nat} (h:zeM w b n N) (hb:Below B w w') (hB:b<B):zeM w' b n N:=zxs h (hb.block b hB)
theorem zxu (h:zeM w b n N) (s:Bs) (hs:s.length<=140737488355328) :
  (Instr.lookup 204 (.map (some b)) (.string ⟨s.toArray⟩) true).run prog w=.ok (.tuple #[.agg #[],.bool (inL N s)]) w:=by
 obtain ⟨D,h,hD⟩:=h
 obtain ⟨v,ps,aV,hv⟩:=h.look_ok z8 underlying204 (zxp w) unitElem_mk (zce s hs)
 rw [aV]
 obtain ⟨rfl,_⟩:=unitElem_inv hv
 rw [hD]
theorem zxv {base:Nat} {e:TypeId} {size:Nat} {v:Value} {xs:List Value} (h:w.ownsRow base e size v n xs) {b:Nat} (hb:b<base):some b≠v.ownBlock:=fun e1=>by
 have:=(h.lt b e1.symm).1
 omega
def zoC (l:List (Bs)) (w:World) (en:Ending) (w':World):Prop:=∃ v,en=.returned v/\w'.ownsRow w.heap.size 9 1 v l.length (sc l)/\Below w.heap.size w w'
theorem zxw {l:List (Bs)} (k:Nat) (hk:k<l.length):onL (l.take (k+1))=zn (onL (l.take k)) l[k]:=by
 rw [List.take_succ_eq_append_getElem hk,zod]
theorem zgT (A:List (Bs)) (x:Bs):sc (A++[x])=sc A++[.string ⟨x.toArray⟩]:=by simp [sc]
theorem zjJ (l:List (Bs)) (k:Nat):(onL (l.take k)).length<=k:=by
 have gen:∀ (b acc:List (Bs)),(b.foldl zn acc).length<=acc.length+b.length:=by
  intro b
  induction b with
  | nil=>intro acc;simp
  | cons x b ih =>
   intro acc
   have h1:=ih (zn acc x)
   have h2:(zn acc x).length<=acc.length+1:=by unfold zn;split <;> simp
   simp only [List.foldl_cons,List.length_cons]
   omega
 have:=gen (l.take k) []
 simp only [List.length_nil,List.length_take] at this
 unfold onL
 omega
theorem zoD (l:List (Bs)) (v:Value) (w:World) (h:TxR w v l) (dV:l.length<=1000000) (aY:∀ x∈l,x.length<=140737488355328):Calls prog 107 #[v] w (zoC (onL l) w):=by
 obtain ⟨a,c,rfl,ae⟩:=h
 have HM:=Hy ae
 have uZ:=Hy aY
 have HS:=Hy (fun k hk=>zxw (l:=l) k hk)
 have HOl:=Hy (zjJ l)
 have HT:=Hy (show onL (l.take l.length)=onL l by rw [List.take_length])
 obtain ⟨n,hn⟩:=Ex l.length
 have HL:=Hy hn
 rw [hn] at dV ⊢
 have ct:=zxo (P:=prog) 204 _ _ underlying204
 clear ae hn aY
 go_enter func107,ntmps107
 go_wp2
 go_loopw [4,14] (fun o v wr=>∃ k:Nat,k<=n/\v=.int .i64 (k:Nat)/\zeM wr w.heap.size k (onL (l.take k))/\wr.ownsRow (w.heap.size+1) 9 1 o (onL (l.take k)).length (sc (onL (l.take k)))/\Below w.heap.size w wr/\w.heap.size+1<=wr.heap.size) (fun _ v _=>n - (intOf v).toNat)
 case atStart=>exact ⟨0,by omega,rfl,⟨_,World.ownsMap_made _ _ _ _,zxq⟩,World.ownsRow_nil _ _ _ _,(Br _).alloc Lr _,by simp⟩
 case round =>
  obtain ⟨k,hk,rfl,bm,ab,hb,aW⟩:=hrel
  by_cases aj:k<n
  ·have bh:(k:Int)<(n:Int):=by omega
   have aO:k<l.length:=by rw [HL.o];exact aj
   obtain ⟨g,o,rfl,hg,aP⟩:=HM.o k aO
   have e1:=(hb.cell (p:=⟨g,o+k,none⟩) hg).trans aP
   have aY:=uZ.o _ (List.getElem_mem aO)
   have dO:=HS.o k aO
   have ib:=HOl.o k
   obtain ⟨m,ct⟩:=Ex (l[k])
   rw [ct] at e1 dO aY
   obtain ⟨A,hA⟩:=Ex (onL (l.take k))
   rw [hA] at bm ab dO ib
   have aV:=zxu bm m aY
   obtain ⟨oa,oc,rfl⟩:=zh ab
   by_cases cz:inL A m=true
   ·have e:zn A m=A:=by unfold zn;rw [if_pos cz]
    rw [e] at dO
    rw [cz] at aV
    have H:=Hy (An bm (An ab (An hb (An aW dO))))
    clear bm ab hb dO ct hA cz e aP aY
    go_wp2
    obtain ⟨q1,q2,q3,q4,q5⟩:=H.o
    refine ⟨⟨k+1,by omega,by go_num,?_,?_,q3.alloc q3.size _,by simp;omega⟩,by simp [intOf];omega⟩
    ·rw [q5]
     obtain ⟨D,CH,kJ⟩:=q1
     exact ⟨D,(CH.alloc _).mono (Nat.le_succ _),kJ⟩
    rw [q5];exact q2.alloc _
   have cz:inL A m=false:=by simpa using cz
   have e:zn A m=A++[m]:=by unfold zn;rw [if_neg (by rw [cz];simp)]
   rw [e] at dO
   rw [cz] at aV
   obtain ⟨D,CH,kJ⟩:=bm
   have MR:=zxr (s:=m) (N':=A++[m]) (CH.tidy z8) kJ (fun y=>by simp)
   have dY:=zce m aY
   have H:=Hy (An ab (An hb (An aW (An dO (An MR (An CH ib))))))
   clear kJ MR ab hb dO ct hA cz e aP aY ib
   go_wp2_with (first
    | (at_mapUpdate
       refine wpList_mapUpdate_own _ rfl _ _ _ 204 rfl 9 205 z8 underlying204 (unitElem (H:=Unit)) w.heap.size k _ rfl (CH.alloc _) Mx _ _ _ rfl rfl dY _ [] unitElem_mk ?_
       intro w1 bS bN
       obtain ⟨q1,q2,q3,q4,q5,q6,q7⟩:=H.o
       have au:Below w.heap.size w w1:=(q2.alloc q2.size _).grown bN So (fun j hj=>by cases hj;exact Nat.le_refl _)
       have j9:=(q1.alloc (.cells #[] 205)).kept bN (Or.inr (zxv q1 (Nat.lt_succ_self _)).symm)
       have mP:w.heap.size+1<=w1.heap.size:=by have:=bN.size;simp at this;omega
       have H5:=Hy (An au (An j9 (An mP bS)))
       clear au j9 mP bS bN q1 q2 q3 q4 q5 q6 aV)
    | (at_builtin;refine zaj rfl (.tmp 28) (.tmp 30) 47 9 rfl (w.heap.size+1) 1 16 (.string ByteArray.empty) Tryz.scinfo9 underlying47 rfl De 1 [.string ⟨m.toArray⟩] rfl ?c0 _ A.length _ rfl _ rfl ?c3 H5.o.2.1 ?c1 ?c2 H5.o.2.2.1 ?_)
    | go_in)
   case c0=>first | rfl | (intro u hu;simp at hu;subst hu;rfl)
   case c1=>unfold maxLen;omega
   case c2=>omega
   case c3=>first | rfl | simp
   intro v' w' g1 g2
   have H6:=Hy (An g1 g2)
   clear g1 g2
   go_wp2
   obtain ⟨r1,r2⟩:=H6.o
   obtain ⟨p1,p2,p3,p4⟩:=H5.o
   obtain ⟨q1,q2,q3,q4,q5,q6,q7⟩:=H.o
   refine ⟨⟨k+1,by omega,by go_num,?_,?_,p1.trans (r2.mono (Nat.le_succ _)),Nat.le_trans p3 r2.size⟩,by simp [intOf];omega⟩
   ·rw [q4]
    exact zxt ⟨_,p4,q5⟩ r2 (Nat.lt_succ_self _)
   rw [q4,List.length_append,zgT];exact r1
  obtain rfl:k=n:=by omega
  have hT:=HT.o
  rw [HL.o] at hT
  rw [hT] at ab
  obtain ⟨oa,oc,rfl⟩:=zh ab
  have H:=Hy (An ab hb)
  clear ab hb bm hT
  go_wp2
  go_ret
  exact ⟨_,rfl,zaK H.o.1 (Nat.le_succ _),H.o.2⟩
end Go.Proofs.YtijglbolppkefaaGreatDoor
namespace Go.Proofs.YtijglbolppkefaaGreatDoor
open Go.Proofs.Tryz
open Go Go.RowKit Go.Proofs.BerK Go.Proofs.MemK Go.Proofs.UtfK
variable {w : World} {v : Value} {A : List Atr} {n : Bs}
def zak (w:World) (v:Value) (A:List Atr):Prop :=
 zam v/\∃ a c,v=.slice a A.length c/\∀ i (hi:i<A.length),∃ g o vl,a=some ⟨g,o,none⟩/\g<w.heap.size/\w.cell? ⟨g,o+i*2,none⟩=some (.string ⟨A[i].1.toArray⟩)/\w.cell? ⟨g,o+i*2+1,none⟩=some vl/\TxR w vl A[i].2/\zam vl
theorem zdA (h:zak w v A):zaB w v A:=by
 obtain ⟨_,a,c,rfl,h⟩:=h
 refine ⟨a,c,rfl,fun i hi=>?_⟩
 obtain ⟨g,o,vl,h1,h2,h3,h4,h5,_⟩:=h i hi
 exact ⟨g,o,vl,h1,h2,h3,h4,h5⟩
theorem zcb {w':World} (h:zak w v A) (hb:Below w.heap.size w w'):zak w' v A:=by
 obtain ⟨hk,a,c,rfl,h⟩:=h
 refine ⟨hk,a,c,rfl,fun i hi=>?_⟩
 obtain ⟨g,o,vl,h1,h2,h3,h4,h5,h6⟩:=h i hi
 exact ⟨g,o,vl,h1,Nat.lt_of_lt_of_le h2 hb.size,(hb.cell (p:=⟨g,_,none⟩) h2).trans h3,(hb.cell (p:=⟨g,_,none⟩) h2).trans h4,zA h5 hb,h6⟩
def zdB (A:List Atr):Prop:=A.length<=1000/\∀ a∈A,a.1.length<=100000/\a.2.length<=1000/\∀ s∈a.2,s.length<=100000
theorem zfF (i:Nat) (hi:i<A.length):vaL (A.take (i+1)) n=if (za A[i].1==n)=true then vaL (A.take i) n++A[i].2 else vaL (A.take i) n:=by
 rw [List.take_succ_eq_append_getElem hi,zog]
 unfold vaL
 split
 ·rename_i h;simp [h]
 rename_i h
 have h:(za A[i].1==n)=false:=by simpa using h
 simp [h]
theorem zxx (h:∀ a∈A,a.2.length<=1000) (n:Bs):(vaL A n).length<=1000*A.length:=by
 induction A with
 | nil=>simp [vaL]
 | cons a A ih =>
  have h1:=ih (fun b hb=>h b (List.mem_cons_of_mem _ hb))
  have h2:=h a Sm
  unfold vaL at *
  rw [List.filter_cons]
  split
  ·simp only [List.flatMap_cons,List.length_append,List.length_cons];omega
  simp only [List.length_cons];omega
theorem zoE {s:Bs} (h:s∈vaL A n):∃ a∈A,s∈a.2:=by
 unfold vaL at h
 obtain ⟨a,ha,hs⟩:=List.mem_flatMap.1 h
 exact ⟨a,(List.mem_filter.1 ha).1,hs⟩
theorem zoF (h:zdB A) (n:Bs) (i:Nat):(vaL (A.take i) n).length<=1000000:=by
 have:=zxx (A:=A.take i) (fun a ha=>(h.2 a (List.mem_of_mem_take ha)).2.1) n
 rw [List.length_take] at this
 have h1:=h.1
 omega
theorem zxy (A:List Atr) (dn s:Bs) (av:Value) (w:World) (h:zak w av A) (hf:zdB A) (hs:s.length<=140737488355328) :
  Calls prog 144 #[.agg #[.string ⟨dn.toArray⟩,av],.string ⟨s.toArray⟩] w (zoC (geL A s) w):=by
 obtain ⟨_,a,c,rfl,ae⟩:=h
 have HM:=Hy ae
 have HF:=Hy hf
 have cV:=Hy (fun w=>show Calls prog 72 #[.string ⟨s.toArray⟩] w (zG (za s) w) from zco ⟨s.toArray⟩ w)
 obtain ⟨N,hN⟩:=Ex (za s)
 have HG:=Hy (show geL A s=onL (vaL (A.take A.length) N) by unfold geL;rw [hN,List.take_length])
 rw [hN] at cV
 obtain ⟨R,hR⟩:=Ex (geL A s)
 rw [hR] at HG ⊢
 have HT:=Hy (fun i (hi:i<A.length)=>zfF (A:=A) (n:=N) i hi)
 have pQ:=Hy (fun i=>zoF hf N i)
 obtain ⟨n,hn⟩:=Ex A.length
 have HL:=Hy hn
 have fv:n<=1000:=by rw [<- hn];exact hf.1
 rw [hn] at HG ⊢
 obtain ⟨W1,aB⟩:=Ex (w.alloc (.cells #[.string ⟨dn.toArray⟩,.slice a n c] 39))
 have au:=Nb aB
 have d7:=Nw aB
 have HX:=Hy (An au d7)
 have br:=Hy aB
 clear ae hf hN hR hn hs au d7 aB
 go_enter func144,ntmps144
 go_wp2_with fail
 rw [br.o]
 refine (cV.o _).mono ?_
 rintro e w2 ⟨rfl,ak⟩
 have x2:=Ob HX.o.2 ak
 obtain ⟨d0,d1⟩:=zf x2
 have H2:=Hy ak
 clear ak x2
 go_wp2
 clear d0 d1
 go_loopw [6,14] (fun o v wr=>∃ k:Nat,k<=n/\v=.int .i64 (k:Nat)/\wr.ownsRow W1.heap.size 9 1 o (vaL (A.take k) N).length (sc (vaL (A.take k) N))/\Below W1.heap.size W1 wr) (fun _ v _=>n - (intOf v).toNat)
 case atStart=>exact ⟨0,by omega,rfl,World.ownsRow_nil _ _ _ _,H2.o⟩
 case round =>
  obtain ⟨k,hk,rfl,ab,hb⟩:=hrel
  by_cases aj:k<n
  ·have bh:(k:Int)<(n:Int):=by omega
   have aO:k<A.length:=by rw [HL.o];exact aj
   obtain ⟨g,o,vl,rfl,hg,aU,aP,dt,sw⟩:=HM.o k aO
   have aq:=HX.o.1.trans (hb.mono HX.o.1.size)
   have e0:=(aq.cell (p:=⟨g,_,none⟩) hg).trans aU
   have e1:=(aq.cell (p:=⟨g,_,none⟩) hg).trans aP
   have dD:=zdt (zec dt sw) aq
   obtain ⟨va,vc,rfl,_⟩:=dt
   have hT:=HT.o k aO
   have jo:=pQ.o k
   have CI:=pQ.o (k+1)
   obtain ⟨m,ct⟩:=Ex (A[k].1)
   obtain ⟨V,hV⟩:=Ex (A[k].2)
   rw [ct,hV] at hT
   rw [ct] at e0
   rw [hV] at dD e1
   obtain ⟨X,hX⟩:=Ex (vaL (A.take k) N)
   rw [hX] at ab hT jo
   have wO:=Hy (fun w=>show Calls prog 72 #[.string ⟨m.toArray⟩] w (zG (za m) w) from zco ⟨m.toArray⟩ w)
   obtain ⟨LM,iL⟩:=Ex (za m)
   rw [iL] at wO hT
   obtain ⟨nl,fv⟩:=Ex V.length
   rw [fv] at e1 dD
   obtain ⟨W2,aL⟩:=Ex (wr.alloc (.cells #[.string ⟨m.toArray⟩,.slice va nl vc] 74))
   have ak:=Nb aL
   have y2:=Nw aL
   have fp:=Hy aL
   have bw:=Hy ak
   obtain ⟨i0,i1⟩:=zf y2
   obtain ⟨oa,oc,rfl⟩:=zh ab
   have H:=Hy (An ab (An hb (An dD (An y2 (An hT (An jo (An CI fv)))))))
   clear ab hb dD y2 hT aq aU aP ct hV hX iL aL ak fv sw jo CI
   go_wp2_with fail
   rw [fp.o]
   refine (wO.o _).mono ?_
   rintro e w5 ⟨rfl,ai⟩
   have y5:=Ob H.o.2.2.2.1 ai
   obtain ⟨j0,j1⟩:=zf y5
   have az:Below wr.heap.size wr w5:=bw.o.trans (ai.mono bw.o.size)
   have H5:=Hy (An az (An (zu H.o.1 az) (An (H.o.2.1.trans (az.mono H.o.2.1.size)) (zdt H.o.2.2.1 az))))
   clear ai az y5 i0 i1 e0 e1
   by_cases hq:(LM==N)=true
   ·have HE:=Hy (show vaL (A.take (k+1)) N=X++V by rw [H.o.2.2.2.2.1,if_pos hq])
    go_wp2_with (first
     | (at_builtin;refine zaf rfl (.tmp 23) (.tmp 25) 47 9 rfl W1.heap.size 1 16 (.string ByteArray.empty) Tryz.scinfo9 underlying47 rfl De _ X.length _ rfl H5.o.2.1 _ nl (sc V) rfl H5.o.2.2.2 (zcD _) ?c1 ?c2 H5.o.2.2.1.size ?_)
     | go_in)
    case c1 =>
     have z1:=H.o.2.2.2.2.2.2.1
     rw [HE.o,List.length_append,H.o.2.2.2.2.2.2.2] at z1
     unfold maxLen;omega
    case c2 =>
     have z1:=H.o.2.2.2.2.2.2.1
     rw [HE.o,List.length_append,H.o.2.2.2.2.2.2.2] at z1
     omega
    intro v' w' g1 g2 g3
    have H6:=Hy (An g1 (zbm H5.o.2.2.1 H5.o.2.2.1.size H5.o.2.1 g2))
    clear g1 g2 g3
    go_wp2
    refine ⟨⟨k+1,by omega,by go_num,?_,H6.o.2⟩,by simp [intOf];omega⟩
    have z:=H6.o.1
    rw [HE.o,List.length_append,H.o.2.2.2.2.2.2.2]
    have e:sc (X++V)=sc X++sc V:=by simp [sc]
    rw [e];exact z
   have hq:(LM==N)=false:=by simpa using hq
   have HE:=Hy (show vaL (A.take (k+1)) N=X by rw [H.o.2.2.2.2.1,if_neg (by rw [hq];simp)])
   go_wp2
   refine ⟨⟨k+1,by omega,by go_num,?_,H5.o.2.2.1⟩,by simp [intOf];omega⟩
   rw [HE.o];exact H5.o.2.1
  obtain rfl:k=n:=by omega
  have hX:=HG.o
  have jo:=pQ.o k
  have dF:∀ x∈vaL (A.take k) N,x.length<=140737488355328:=fun x hx=>by
   obtain ⟨a,ha,EQ⟩:=zoE hx
   have:=(HF.o.2 a (List.mem_of_mem_take ha)).2.2 x EQ
   omega
  obtain ⟨X,MS⟩:=Ex (vaL (A.take k) N)
  rw [MS] at ab hX jo dF
  obtain ⟨oa,oc,rfl⟩:=zh ab
  have HO:=Hy (zoD X _ wr (zaL ab) jo dF)
  have aq:=HX.o.1.trans (hb.mono HX.o.1.size)
  have H:=Hy (An aq hX)
  clear ab hb aq hX jo dF MS
  go_wp2_with fail
  refine HO.o.mono ?_
  rintro e w5 ⟨v,rfl,hr,ai⟩
  obtain ⟨ra,rc,rfl⟩:=zh hr
  have H5:=Hy (An hr ai)
  clear hr ai
  go_wp2
  go_ret
  refine ⟨_,rfl,?_,H.o.1.trans (H5.o.2.mono H.o.1.size)⟩
  rw [H.o.2]
  exact zaK H5.o.1 H.o.1.size
theorem zjK {W1:World} {a b c d:Value} (h:(w.alloc (.cells #[a,b] 39)).alloc (.cells #[c,d] 39)=W1) :
  W1.heap[w.heap.size]?=some (.cells #[a,b] 39 (0,0))/\W1.heap[w.heap.size+1]?=some (.cells #[c,d] 39 (0,0))/\Below w.heap.size w W1/\W1.heap.size=w.heap.size+2:=by
 have aE:Below w.heap.size w (w.alloc (.cells #[a,b] 39)):=(Br w).alloc Lr _
 refine ⟨?_,?_,?_,?_⟩
 ·rw [<- h];exact za0 (heap_alloc_new w _) _
 ·rw [<- h]
  have:=heap_alloc_new (w.alloc (.cells #[a,b] 39)) (.cells #[c,d] 39)
  simpa using this
 ·rw [<- h];exact aE.alloc aE.size _
 rw [<- h];simp
theorem zxz (A B:List Atr) (dx dy:Bs) (va vb:Value) (w:World) (h1:zaB w va A) (h2:zaB w vb B) (hl:A.length<=1000000) (eF:B.length<=1000000) (hA:∀ a∈A,a.2.length<=1000000) (hB:∀ a∈B,a.2.length<=1000000) :
  Calls prog 33 #[.agg #[.string ⟨dx.toArray⟩,va],.agg #[.string ⟨dy.toArray⟩,vb]] w (BB (decide (dx=dy/\A=B)) w):=by
 obtain ⟨a1,c1,rfl,gj⟩:=h1
 obtain ⟨a2,c2,rfl,dG⟩:=h2
 have tj:=Hy gj
 have oN:=Hy dG
 have HA:=Hy (An hA hB)
 obtain ⟨R,hR⟩:=Ex (decide (dx=dy/\A=B))
 have HR:=Hy hR
 rw [hR]
 obtain ⟨n,hn⟩:=Ex A.length
 obtain ⟨m,hm⟩:=Ex B.length
 have HL:=Hy (An hn hm)
 rw [hn] at hl ⊢
 rw [hm] at eF ⊢
 obtain ⟨W1,aB⟩:=Ex ((w.alloc (.cells #[.string ⟨dx.toArray⟩,.slice a1 n c1] 39)).alloc (.cells #[.string ⟨dy.toArray⟩,.slice a2 m c2] 39))
 have HX:=Hy (zjK aB)
 have br:=Hy aB
 clear gj dG hR hn hm hA hB aB
 have b0:=(zf HX.o.1).1
 have b1:=(zf HX.o.1).2
 have d0:=(zf HX.o.2.1).1
 have d1:=(zf HX.o.2.1).2
 cases hd:(dx==dy)
 ·have lB:=Hy (show R=false by
   rw [<- HR.o,decide_eq_false_iff_not]
   rintro ⟨e,_⟩
   subst e
   simp at hd)
  exact zoB
 by_cases aJ:n=m
 ·subst aJ
  have HD:=Hy (show dx=dy by simpa using hd)
  go_enter func33,ntmps33
  go_wp2
  try rw [br.o]
  go_loopw [5] (fun v5 wr=>∃ k:Nat,v5=.int .i64 k/\k<=n/\Below (w.heap.size+2) W1 wr/\∀ j (h1:j<A.length) (h2:j<B.length),j<k->A[j]=B[j]) (fun v5 _=>n - (intOf v5).toNat)
  case atStart=>exact ⟨0,rfl,Nat.zero_le _,Br _,fun j _ _ h=>by omega⟩
  case round =>
   clear b0 b1 d0 d1
   obtain ⟨k,rfl,hk,hb,af⟩:=hrel
   have x0:=zj HX.o.1 hb Om
   have x1:=zj HX.o.2.1 hb Om
   obtain ⟨b0,b1⟩:=zf x0
   obtain ⟨d0,d1⟩:=zf x1
   have z0:=zi x0
   have z1:=zi x1
   have aq:=HX.o.2.2.1.trans (hb.mono Om)
   clear x0 x1
   by_cases aj:k<n
   ·have fM:k<A.length:=by rw [HL.o.1];exact aj
    have iC:k<B.length:=by rw [HL.o.2];exact aj
    obtain ⟨g1,o1,v1,rfl,bI,aP,MT,t1⟩:=tj.o k fM
    obtain ⟨g2,o2,v2,rfl,cf,cI,MV,t2⟩:=oN.o k iC
    have e1:=(aq.cell (p:=⟨g1,_,none⟩) bI).trans aP
    have f1:=(aq.cell (p:=⟨g1,_,none⟩) bI).trans MT
    have e2:=(aq.cell (p:=⟨g2,_,none⟩) cf).trans cI
    have f2:=(aq.cell (p:=⟨g2,_,none⟩) cf).trans MV
    have MW:=Nat.lt_of_lt_of_le bI aq.size
    have qL:=Nat.lt_of_lt_of_le cf aq.size
    have y1:=zA t1 aq
    have y2:=zA t2 aq
    have m1:=HA.o.1 _ (List.getElem_mem fM)
    have m2:=HA.o.2 _ (List.getElem_mem iC)
    have gT:=Hy (fun (hx:A[k]=B[k]) j (h1:j<A.length) (h2:j<B.length) (h:j<k+1)=>(show A[j]=B[j] by
     by_cases e:j=k
     ·subst e;exact hx
     exact af j h1 h2 Om))
    have mj:=Hy (fun (hx:A[k]≠B[k])=>(show A≠B from fun e=>hx (by subst e;rfl)))
    obtain ⟨⟨x,lx⟩,hx⟩:∃ x,A[k]=x:=⟨_,rfl⟩
    obtain ⟨⟨y,ly⟩,hy⟩:∃ x,B[k]=x:=⟨_,rfl⟩
    have jR:=Hy (An hx hy)
    rw [hx] at e1 y1 m1
    rw [hy] at e2 y2 m2
    simp only at e1 e2 y1 y2 m1 m2
    have hS:=fun W (hW:Below wr.heap.size wr W)=>zhI lx ly v1 v2 W (zA y1 hW) (zA y2 hW) m1 m2
    obtain ⟨p1,q1,rfl,_⟩:=y1
    obtain ⟨p2,q2,rfl,_⟩:=y2
    obtain ⟨n1,de⟩:=Ex lx.length
    obtain ⟨n2,kE⟩:=Ex ly.length
    rw [de,kE] at hS
    rw [de] at f1
    rw [kE] at f2
    have hi1:(k:Int)<(n:Int):=by omega
    have HB:=Hy hb
    clear hx hy af hb aq de kE m1 m2 t1 t2 aP cI MT MV hd
    cases mO:(x==y)
    ·have lB:=Hy (show R=false by
      rw [<- HR.o,decide_eq_false_iff_not]
      rintro ⟨_,e⟩
      refine mj.o ?_ e
      rw [jR.o.1,jR.o.2]
      intro e
      injection e with e1 e2
      subst e1
      simp at mO)
     clear hS
     go_wp2
     go_quiet (fail)
     go_wp2
     go_ret
     exact zB lB.o (zae (HX.o.2.2.1.trans (HB.o.mono Om)) _)
    have HE:=Hy (show x=y by simpa using mO)
    obtain ⟨b,aX⟩:=Ex (decide (lx=ly))
    rw [aX] at hS
    have HS:=Hy hS
    have lB:=Hy (show b=false->R=false from fun e=>by
     rw [<- HR.o,decide_eq_false_iff_not]
     rintro ⟨_,e2⟩
     refine mj.o ?_ e2
     rw [jR.o.1,jR.o.2]
     intro e3
     injection e3 with e4 e5
     subst e
     exact absurd e5 (by simpa using aX))
    have HN:=Hy (show b=true->_ from fun e=>gT.o (by rw [jR.o.1,jR.o.2,HE.o];subst e;rw [show lx=ly by simpa using aX]))
    clear aX hS
    go_wp2_with fail
    go_region_held3 (fun w'=>w'.cell? ⟨w.heap.size,1,none⟩=some (.slice (some ⟨g1,o1,none⟩) n c1)/\w'.cell? ⟨w.heap.size+1,1,none⟩=some (.slice (some ⟨g2,o2,none⟩) n c2)/\w'.cell? ⟨g1,o1+k*2,none⟩=some (.string ⟨x.toArray⟩)/\w'.cell? ⟨g1,o1+k*2+1,none⟩=some (.slice p1 n1 q1)/\w'.cell? ⟨g2,o2+k*2,none⟩=some (.string ⟨y.toArray⟩)/\w'.cell? ⟨g2,o2+k*2+1,none⟩=some (.slice p2 n2 q2)) (first | exact ⟨au,ef,dK,MX,kB,xq⟩ | exact ⟨b1,d1,e1,f1,e2,f2⟩ | go_keep)
     (first | (go_at_call 13;(with_reducible refine (HS.o _ (by first | exact ax | exact (Br wr).drew)).mono ?_);rintro en wz ⟨rfl,ai⟩;have ax:Below wr.heap.size wr wz:=(by first | exact ax.trans (ai.mono ax.size) | exact (Br wr).drew.trans ai);have au:=(ax.cell (p:=⟨w.heap.size,1,none⟩) z0).trans b1;have ef:=(ax.cell (p:=⟨w.heap.size+1,1,none⟩) z1).trans d1;have dK:=(ax.cell (p:=⟨g1,o1+k*2,none⟩) MW).trans e1;have MX:=(ax.cell (p:=⟨g1,o1+k*2+1,none⟩) MW).trans f1;have kB:=(ax.cell (p:=⟨g2,o2+k*2,none⟩) qL).trans e2;have xq:=(ax.cell (p:=⟨g2,o2+k*2+1,none⟩) qL).trans f2;clear ai))
    all_goals
     have H5:=Hy (HB.o.trans (ax.mono (by have:=HX.o.2.2.2;have:=HB.o.size;omega)))
     clear ax au ef dK MX kB xq b0 b1 d0 d1 e1 e2 f1 f2
     cases b
     ·have HRz:=Hy (lB.o rfl)
      go_wp2
      go_ret
      exact zB HRz.o (HX.o.2.2.1.trans (H5.o.mono Om))
     have HNz:=Hy (HN.o rfl)
     go_wp2
     exact ⟨⟨k+1,by go_num,by omega,H5.o,HNz.o⟩,by simp [intOf];omega⟩
   obtain rfl:k=n:=by omega
   have IF:=Hy (show R=true by
    rw [<- HR.o,decide_eq_true_eq]
    exact ⟨HD.o,List.ext_getElem (by rw [HL.o.1,HL.o.2]) (fun j h1 h2=>af j h1 h2 (by rw [<- HL.o.1];exact h1))⟩)
   have HB:=Hy aq
   clear af hb aq
   go_wp2
   go_ret
   exact zB IF.o HB.o
 have lB:=Hy (show R=false by
  rw [<- HR.o,decide_eq_false_iff_not]
  rintro ⟨_,e⟩
  subst e
  exact aJ (by rw [<- HL.o.1,<- HL.o.2]))
 have q1:((n:Int) != (m:Int))=true:=by rw [bne_iff_ne];omega
 clear aJ
 exact zoB
def zaa (r:Int) (value own:Bs):Bool:=eqP (ruN r own) (ruN r value)==1
theorem zxA (r:Int) (value own:Bs) (b7 b6:Nat) (w:World) (h7:w.cell? ⟨b7,0,none⟩=some (.int .i64 r)) (h6:w.cell? ⟨b6,0,none⟩=some (.string ⟨value.toArray⟩)) (he:zD w) :
  Calls prog 145 #[.string ⟨own.toArray⟩,.pointer (some ⟨b7,0,none⟩),.pointer (some ⟨b6,0,none⟩)] w (BB (zaa r value own) w):=by
 have HE:=Hy (zzZ r own value w he)
 obtain ⟨p,hp⟩:=Ex (eqP (ruN r own) (ruN r value))
 have HR:=Hy (show zaa r value own=(p==1) by unfold zaa;rw [hp])
 rw [hp] at HE
 clear hp he
 go_enter func145,ntmps145
 go_wp2_with fail
 refine HE.o.mono ?_
 rintro en w1 ⟨rfl,hb⟩
 have H:=Hy hb
 clear hb h7 h6
 go_wp2
 go_ret
 exact zB HR.o H.o
theorem zxB (r:Int) (value:Bs) (l:List (Bs)) (v:Value) (b7 b6:Nat) (w:World) (h7:w.cell? ⟨b7,0,none⟩=some (.int .i64 r)) (h6:w.cell? ⟨b6,0,none⟩=some (.string ⟨value.toArray⟩)) (he:zD w) (h:TxR w v l) (hl:l.length<=1000000) :
  Calls prog 117 #[v,.func (.func 145) #[] #[.pointer (some ⟨b7,0,none⟩),.pointer (some ⟨b6,0,none⟩)]] w (ze4 (l.any (zaa r value)) w):=by
 have HF:=Hy (fun own W (hW:Below w.heap.size w W)=>zxA r value own b7 b6 W ((hW.cell (p:=⟨b7,0,none⟩) (Lib.lt_of_cell h7)).trans h7) ((hW.cell (p:=⟨b6,0,none⟩) (Lib.lt_of_cell h6)).trans h6) (zax he hW))
 obtain ⟨a,c,rfl,ae⟩:=h
 have HM:=Hy ae
 obtain ⟨n,hn⟩:=Ex l.length
 have HL:=Hy hn
 have HY:=Hy (zdJ (l:=l) (q:=zaa r value))
 have HN:=Hy (zdK (l:=l) (q:=zaa r value))
 obtain ⟨R,hR⟩:=Ex (l.any (zaa r value))
 rw [hR] at HY HN ⊢
 rw [hn] at hl ⊢
 clear ae hn hR h7 h6 he
 go_enter func117,ntmps117
 go_wp2
 go_loopw [8] (fun v wr=>∃ k:Nat,k<=n/\v=.int .i64 (k:Nat)/\Below w.heap.size w wr/\∀ j (hj:j<l.length),j<k->zaa r value l[j]=false) (fun v _=>n - (intOf v).toNat)
 case atStart=>exact ⟨0,by omega,rfl,Br _,fun j _ h=>by omega⟩
 case round =>
  obtain ⟨k,hk,rfl,hb,af⟩:=hrel
  have cQ:=hb.size
  by_cases aj:k<n
  ·have bh:(k:Int)<(n:Int):=by omega
   have aO:k<l.length:=by rw [HL.o];exact aj
   obtain ⟨g,o,rfl,hg,aU⟩:=HM.o k aO
   have e0:=(hb.cell (p:=⟨g,_,none⟩) hg).trans aU
   have hF:=HF.o l[k] wr hb
   obtain ⟨bq,aX⟩:=Ex (zaa r value l[k])
   have jt:=Hy (fun hx=>HY.o k aO (by rw [aX];exact hx))
   have HA:=Hy (fun (hx:bq=false) j (hj:j<l.length) (fB:j<k+1)=>(show zaa r value l[j]=false by
    by_cases ji:j=k
    ·subst ji;rw [aX];exact hx
    exact af j hj Om))
   rw [aX] at hF
   obtain ⟨nm,aJ⟩:=Ex (l[k])
   rw [aJ] at e0 hF
   have EW:=Hy hF
   have HB:=Hy hb
   clear hb af aU aX hF aJ
   go_wp2_with fail
   refine EW.o.mono ?_
   rintro en w5 ⟨rfl,ai⟩
   have bY:=Hy (HB.o.trans (ai.mono cQ))
   clear ai e0
   cases bq
   ·have H:=Hy (HA.o rfl)
    go_wp2
    exact ⟨⟨k+1,by omega,by go_num,bY.o,H.o⟩,by simp [intOf];omega⟩
   have H:=Hy (jt.o rfl)
   go_wp2
   go_ret
   exact ⟨_,rfl,by rw [H.o];simp,bY.o⟩
  obtain rfl:k=n:=by omega
  have H:=Hy (HN.o (fun j hj=>af j hj (by rw [<- HL.o];exact hj)))
  have HB:=Hy hb
  clear hb af
  go_wp2
  go_ret
  exact ⟨_,rfl,by rw [H.o];rfl,HB.o⟩
theorem zxC (r:Int) (value:Bs) (l:List (Bs)) (v:Value) (b7 b6:Nat) (w:World) (h7:w.cell? ⟨b7,0,none⟩=some (.int .i64 r)) (h6:w.cell? ⟨b6,0,none⟩=some (.string ⟨value.toArray⟩)) (he:zD w) (h:TxR w v l) (hl:l.length<=1000000) :
  Calls prog 79 #[v,.func (.func 145) #[] #[.pointer (some ⟨b7,0,none⟩),.pointer (some ⟨b6,0,none⟩)]] w (BB (l.any (zaa r value)) w):=by
 have HC:=Hy (zxB r value l v b7 b6 w h7 h6 he h hl)
 obtain ⟨a,c,rfl,_⟩:=h
 obtain ⟨R,hR⟩:=Ex (l.any (zaa r value))
 rw [hR] at HC ⊢
 clear hR h7 h6 he
 go_enter func79,ntmps79
 go_wp2_with fail
 refine HC.o.mono ?_
 rintro en w1 ⟨n,rfl,hn,hb⟩
 have H:=Hy hn
 clear hn
 go_wp2
 go_ret
 exact zB H.o.symm hb
theorem zxD (A:List Atr) (dn attr value:Bs) (r:Int) (av:Value) (w:World) (h:zak w av A) (hf:zdB A) (hs:attr.length<=140737488355328) (he:zD w) :
  Calls prog 106 #[.agg #[.string ⟨dn.toArray⟩,av],.string ⟨attr.toArray⟩,.string ⟨value.toArray⟩,.int .i64 r] w (BB ((geL A attr).any (zaa r value)) w):=by
 obtain ⟨W1,aB⟩:=Ex (w.alloc (.cells #[.string ⟨dn.toArray⟩,av] 39))
 obtain ⟨W2,aL⟩:=Ex (W1.alloc (.cells #[.string ⟨value.toArray⟩] 9))
 obtain ⟨W3,cU⟩:=Ex (W2.alloc (.cells #[.int .i64 r] 3))
 have s1:W1.heap.size=w.heap.size+1:=by rw [<- aB];simp
 have s2:W2.heap.size=w.heap.size+2:=by rw [<- aL];simp [s1]
 have s3:W3.heap.size=w.heap.size+3:=by rw [<- cU];simp [s2]
 have k1:=Nb aB
 have k2:Below w.heap.size w W2:=by rw [<- aL];exact k1.alloc k1.size _
 have k3:Below w.heap.size w W3:=by rw [<- cU];exact k2.alloc k2.size _
 have x1:=Nw aB
 have x2:W3.heap[w.heap.size]?=some (.cells #[.string ⟨dn.toArray⟩,av] 39 (0,0)):=by rw [<- cU,<- aL];exact za0 (za0 x1 _) _
 have y2:W2.heap[w.heap.size+1]?=some (.cells #[.string ⟨value.toArray⟩] 9 (0,0)):=by
  have:=heap_alloc_new W1 (.cells #[.string ⟨value.toArray⟩] 9)
  rw [aL,s1] at this
  exact this
 have y3:W3.heap[w.heap.size+1]?=some (.cells #[.string ⟨value.toArray⟩] 9 (0,0)):=by rw [<- cU];exact za0 y2 _
 have z3:W3.heap[w.heap.size+2]?=some (.cells #[.int .i64 r] 3 (0,0)):=by
  have:=heap_alloc_new W2 (.cells #[.int .i64 r] 3)
  rw [cU,s2] at this
  exact this
 have HG:=Hy (zxy A dn attr av W3 (zcb h k3) hf hs)
 have HW:=Hy (show ((w.alloc (.cells #[.string ⟨dn.toArray⟩,av] 39)).alloc (.cells #[.string ⟨value.toArray⟩] 9)).alloc (.cells #[.int .i64 r] 3)=W3 by rw [aB,aL,cU])
 have HX:=Hy (An k3 (An y3 (An z3 s3)))
 have HE:=Hy (zax he k3)
 have HL:=Hy (show (geL A attr).length<=1000000 by
  have h1:=zjJ (vaL A (za attr)) (vaL A (za attr)).length
  rw [List.take_length] at h1
  have h2:=zoF hf (za attr) A.length
  rw [List.take_length] at h2
  unfold geL
  omega)
 obtain ⟨i0,i1⟩:=zf x2
 obtain ⟨_,a,c,rfl,_⟩:=h
 obtain ⟨G,hG⟩:=Ex (geL A attr)
 rw [hG] at HG HL ⊢
 clear aB aL cU s1 s2 s3 k1 k2 k3 x1 x2 y2 y3 z3 he hs hf hG
 go_enter func106,ntmps106
 go_wp2_with fail
 rw [HW.o]
 refine HG.o.mono ?_
 rintro en w5 ⟨v,rfl,hr,ai⟩
 obtain ⟨ra,rc,rfl⟩:=zh hr
 have y5:=zq (Ob HX.o.2.1 ai) 0 _ rfl
 have z5:=zq (Ob HX.o.2.2.1 ai) 0 _ rfl
 have HC:=Hy (zxC r value G _ (w.heap.size+2) (w.heap.size+1) w5 z5 y5 (zax HE.o ai) (zaL hr) HL.o)
 have HB:=Hy (HX.o.1.trans (ai.mono HX.o.1.size))
 obtain ⟨R,hR⟩:=Ex (G.any (zaa r value))
 rw [hR] at HC
 have HR:=Hy hR
 clear hr ai y5 z5 i0 i1 hR
 go_wp2_with fail
 refine HC.o.mono ?_
 rintro en w6 ⟨rfl,az⟩
 have d9:=Hy (HB.o.trans (az.mono HB.o.size))
 clear az
 go_wp2
 go_ret
 exact zB HR.o d9.o
end Go.Proofs.YtijglbolppkefaaGreatDoor
