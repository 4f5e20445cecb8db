/- The code's Lower hands back. -/
import Derived.Test.YtijglbolppkefaaGreatDoorProg
import Derived.WalkKit
import Derived.WalkMore
import Derived.WalkLawsBesides
import Derived.Lib.Hide
import Derived.Outline
import Derived.Test.YtijglbolppkefaaGreatDoorMLayw
import Derived.Test.YtijglbolppkefaaGreatDoorGenA
import Derived.Test.YtijglbolppkefaaGreatDoorGenB
import Derived.Lib.AppendStr
import Derived.Lib.IndexBytes
set_option linter.unusedVariables false
set_option linter.unusedSimpArgs false
set_option maxHeartbeats 25600000
set_option maxRecDepth 100000
namespace Go.Proofs.YtijglbolppkefaaGreatDoor
open Go.Proofs.Tryz
open Go Go.RowKit Go.Proofs.BerK Go.Proofs.MemK Go.Proofs.UtfK
variable {a l : Bs} {w w' : World} {x : ByteArray} {b : Bool}
theorem zi1 {p:Prop} (h:p:=by
 go_enter func189,ntmps189
 go_wp2
 go_ret2
 exact zvN H.o.1 H.o.2):p:=h
theorem znr {p:Prop} (h:p:=by
 go_wp2
 obtain ⟨h1,h2,h3,h4,h5⟩:=H.o
 exact ⟨⟨pos+1,by omega,h2,h1,h3⟩,by rw [h4,h5];omega⟩):p:=h
theorem zns {p:Prop} (h:p:=by
 rw [ByteArray.toList_eq]
 cases hq:x.data.toList with
 | nil=>exact absurd hq hx
 | cons a l=>rfl):p:=h
theorem zvw (l:Bs) (h:∀ b∈l,128<=b.toNat):za l=l:=by
 unfold za
 rw [List.map_congr_left (g:=id) (fun b hb=>?_),List.map_id]
 have:=h b hb
 apply UInt8.toNat_inj.1
 rw [zd0,if_neg Om];rfl
def zbk (s:ByteArray) (p:Nat):Bs:=za (s.data.toList.take p)++s.data.toList.drop p
theorem zvx (s:ByteArray):zbk s 0=s.data.toList:=by simp [zbk,za]
theorem zvy (s:ByteArray):zbk s s.size=za s.data.toList:=by
 unfold zbk
 rw [List.take_of_length_le (by rw [zl];exact Nat.le_refl _),List.drop_of_length_le (by rw [zl];exact Nat.le_refl _),List.append_nil]
theorem zi2 (s:ByteArray) (p:Nat):(zbk s p).length=s.size:=by
 unfold zbk
 rw [List.length_append,zdC,<- List.length_append,List.take_append_drop,zl]
theorem zvz (s:ByteArray) (p K:Nat) (mid:Bs) (h1:s.data.toList.take (p+K)=s.data.toList.take p++mid) (h2:s.data.toList.drop p=mid++s.data.toList.drop (p+K)) (h:∀ b∈mid,128<=b.toNat):zbk s (p+K)=zbk s p:=by
 have e:za (s.data.toList.take p++mid)=za (s.data.toList.take p)++mid:=by
  conv=>rhs;rw [<- zvw mid h]
  simp [za]
 unfold zbk
 rw [h1,h2,e,List.append_assoc]
theorem zvA (s:ByteArray) (p:Nat) (hp:p<s.size):zbk s p=za (s.data.toList.take p)++s[p] :: s.data.toList.drop (p+1):=by
 have hl:=zl s
 rw [zbk,zO s.data.toList p Om];rfl
theorem znt (s:ByteArray) (p:Nat) (hp:p<s.size):zbk s (p+1)=(zbk s p).set p (zbg s[p]):=by
 have hk:(za (s.data.toList.take p)).length=p:=by rw [zdC,List.length_take,zl];omega
 have hl:=zl s
 unfold zbk
 rw [List.set_append_right _ _ Om,hk,Nat.sub_self,zO s.data.toList p Om,List.set_cons_zero,zdb s p hp]
 simp [za]
theorem zvB (s:ByteArray) (p:Nat) (hp:p<s.size) (h:zbg s[p]=s[p]):zbk s (p+1)=zbk s p:=by
 have hk:(za (s.data.toList.take p)).length=p:=by rw [zdC,List.length_take,zl];omega
 rw [znt s p hp,h,zvA s p hp,List.set_append_right _ _ Om,hk,Nat.sub_self,List.set_cons_zero]
def zG (l:Bs) (w:World) (en:Ending) (w':World):Prop:=en=.returned (.string ⟨l.toArray⟩)/\Below w.heap.size w w'
theorem zvC (h:l=a) (hb:Below w.heap.size w w'):zG l w (.returned (.string ⟨a.toArray⟩)) w':=by subst h;exact ⟨rfl,hb⟩
theorem zco (s:ByteArray) (w:World) :
  Calls prog 72 #[.string s] w (zG (za s.data.toList) w):=by
 have gY:=run_bytes_of_string (P:=prog) w 9 176 5 s underlying9 underlying176 underlying5
 have hR:=znF w w.drew s 5 rfl
 have wu:Below w.heap.size w (w.drew.alloc (zcZ w s 5)):=(Br w).drew.alloc Lr _
 have ip:(w.drew.alloc (zcZ w s 5)).heap.size=w.heap.size+1:=by simp
 change (convert 9 176 (.string s)).run prog w=.ok _ (w.drew.alloc (zcZ w s 5)) at gY
 obtain ⟨W0,aN⟩:=Ex (w.drew.alloc (zcZ w s 5))
 obtain ⟨cap,bM⟩:=Ex (grownCap w s.size 0 5)
 rw [aN,bM] at gY
 rw [aN] at hR wu ip
 clear aN bM
 have HR:=Hy hR
 clear hR
 go_enter func72,ntmps72
 go_wp2
 go_loopw [4] (fun _ wr=>∃ pos:Nat,pos<=s.size/\wr.heap[w.heap.size+1]?=some (.stringIter s pos)/\zcC wr w.heap.size (zbk s pos)/\Below w.heap.size w wr) (fun _ wr=>s.size - wr.iterPos (w.heap.size+1))
 case atStart =>
  refine ⟨0,by omega,?_,?_,?_⟩
  ·have:=World.iter_heap W0 s 0
   rw [ip] at this;exact this
  ·rw [zvx];exact zv6 HR.o _
  exact wu.alloc Om _
 case round =>
  obtain ⟨pos,ei,eN,aA,hb⟩:=hrel
  have ik:=iterPos_of eN
  by_cases aj:pos<s.size
  ·have dI:∀ ty,(Instr.next (.pointer (some ⟨w.heap.size+1,0,none⟩)) true ty).run prog wr=_:=fun ty=>Lib.run_next_any_at wr (w.heap.size+1) s pos ty eN aj
   have hl:=zl s
   by_cases ha:s[pos].toNat<128
   ·rw [decode_ascii s pos aj ha] at dI
    simp only [] at dI
    have bK:=Lib.iterAt_heap wr _ s pos (pos+1) eN
    have cE:=znE aA (k:=w.heap.size+1) Om s (pos+1)
    have ak:=zeD hb (k:=w.heap.size+1) Om s (pos+1)
    obtain ⟨W2,aL⟩:=Ex (wr.iterAt (w.heap.size+1) s (pos+1))
    rw [aL] at dI bK cE ak
    have d6:=iterPos_of bK
    have bn:=znt s pos aj
    by_cases hu:65<=s[pos].toNat/\s[pos].toNat<=90
    ·have hv:((zbg s[pos]).toNat:Int)=(s[pos].toNat:Int) - 65+97:=by rw [zd0,if_pos hu];omega
     have bH:=cE.2.1 pos (by rw [zi2];exact aj)
     have jA:=cE.2.2 pos (by rw [zi2];exact aj)
     obtain ⟨x,hx⟩:∃ x:UInt8,(zbk s pos)[pos]'(by rw [zi2];exact aj)=x:=⟨_,rfl⟩
     rw [hx] at bH
     obtain ⟨c,hc⟩:=Ex (s[pos].toNat)
     rw [hc] at dI hu ha hv
     have pi:=zv7 cE pos (zbg s[pos])
     rw [hv,<- bn] at pi
     have kT:=(Below.heap_setCell W2 ⟨w.heap.size,pos,none⟩ (.int .u8 ((c:Int) - 65+97)) (w.heap.size+1) Sm).trans bK
     have aK:=ak.setCell (p:=⟨w.heap.size,pos,none⟩) Lr (.int .u8 ((c:Int) - 65+97))
     have pj:=iterPos_of kT
     have H:=Hy (An pi (An kT (An aK (An ik pj))))
     obtain ⟨LH,hu2⟩:=hu
     clear aA eN cE bK hb ak bn ik d6 hv aL hx hc pi kT aK pj
     have hu1':(65:Int)<=(c:Int):=by omega
     have hu2':(c:Int)<=90:=by omega
     exact znr
    have aC:=zvB s pos aj (by apply UInt8.toNat_inj.1;rw [zd0,if_neg hu])
    rw [<- aC] at cE
    have H:=Hy (An cE (An bK (An ak (An ik d6))))
    obtain ⟨c,hc⟩:=Ex (s[pos].toNat)
    rw [hc] at dI hu ha
    have kb:(c:Int)<65\/(90:Int)<(c:Int):=by omega
    clear aA eN cE bK hb ak bn ik d6 aL hc aC hu
    rcases kb with kb | kb
    all_goals
     exact znr
   obtain ⟨mid,m1,m2,m3,m4,m5,m6⟩:=zjb s pos aj Om
   have uP:=zvz s pos _ mid m1 m2 m3
   obtain ⟨R,hR⟩:=Ex ((Utf8.decode s pos).1)
   obtain ⟨K,hK⟩:=Ex ((Utf8.decode s pos).2)
   rw [hR,hK] at dI
   rw [hR] at m6
   rw [hK] at m4 m5 uP
   have bK:=Lib.iterAt_heap wr _ s pos (pos+K) eN
   have cE:=znE aA (k:=w.heap.size+1) Om s (pos+K)
   have ak:=zeD hb (k:=w.heap.size+1) Om s (pos+K)
   obtain ⟨W2,aL⟩:=Ex (wr.iterAt (w.heap.size+1) s (pos+K))
   rw [aL] at dI bK cE ak
   have d6:=iterPos_of bK
   rw [<- uP] at cE
   have H:=Hy (An cE (An bK (An ak (An ik d6))))
   have kb:(90:Int)<(R:Int):=by omega
   clear aA eN cE bK hb ak ik d6 aL hR hK m1 m2 m3 m6 uP ha
   go_wp2
   obtain ⟨h1,h2,h3,h4,h5⟩:=H.o
   exact ⟨⟨pos+K,by omega,h2,h1,h3⟩,by rw [h4,h5];omega⟩
  have dI:∀ ty,(Instr.next (.pointer (some ⟨w.heap.size+1,0,none⟩)) true ty).run prog wr=_:=fun ty=>Lib.run_next_end_at wr (w.heap.size+1) s pos ty eN aj
  obtain rfl:pos=s.size:=by omega
  rw [zvy] at aA
  have hc:=zv9 (P:=prog) (src:=176) (dst:=9) (n:=s.size) (cap:=cap) underlying176 underlying5 underlying9 aA (by rw [zdC,zl])
  have H:=Hy hb
  clear aA eN hb ik
  go_wp2
  go_ret
  exact ⟨rfl,H.o⟩
theorem Tryz.info5 : (prog.info? 5).map (fun i=>(i.zero,i.size,i.bytes))=some (some (.int .u8 0),1,1):=by kernel_rfl
def zbC (X w:Bs):Bs:=if w=[] then X else if X=[] then w else X++32 :: w
def neL (X:Bs):Bool := !X.isEmpty
theorem zvD (w t:Bs) (hw:∀ b∈w,b≠32) (h0:w≠[]):∀ ne,bl ne (w++t)=w++bl true t:=by
 induction w with
 | nil=>exact absurd rfl h0
 | cons c r ih =>
  intro ne
  have hc:c≠32:=hw c Sm
  rw [List.cons_append,bl,if_pos hc]
  by_cases hr:r=[]
  ·subst hr;rfl
  rw [ih (fun b hb=>hw b (by simp [hb])) hr true];rfl
theorem zvE (ne:Bool) (r:Bs):bl ne (32 :: 32 :: r)=bl ne (32 :: r):=by
 rw [bl,if_neg Sm,if_neg (by simp [hdn])]
theorem znu (X w t:Bs) (hw:∀ b∈w,b≠32) (ht:t=[]\/∃ r,t=32 :: r):X++bl (neL X) (32 :: (w++t))=zbC X w++bl (neL (zbC X w)) t:=by
 by_cases h0:w=[]
 ·subst h0
  rw [List.nil_append,zbC,if_pos rfl]
  rcases ht with rfl | ⟨r,rfl⟩
  ·simp [bl,hdn]
  rw [zvE]
 have hh:hdn (w++t)=true:=by
  cases w with
  | nil=>exact absurd rfl h0
  | cons c r=>simpa [hdn] using hw c Sm
 rw [bl,if_neg Sm,zvD w t hw h0]
 by_cases hX:X=[]
 ·subst hX
  have e:zbC [] w=w:=by rw [zbC,if_neg h0,if_pos rfl]
  have e2:neL w=true:=by cases w with
   | nil=>exact absurd rfl h0
   | cons c r=>rfl
  rw [e,e2,if_neg (by simp [neL])];rfl
 have e:zbC X w=X++32 :: w:=by rw [zbC,if_neg h0,if_neg hX]
 have e2:neL (X++32 :: w)=true:=by cases X <;> simp [neL]
 have e3:neL X=true:=by cases X with
  | nil=>exact absurd rfl hX
  | cons c r=>rfl
 rw [e,e2,if_pos ⟨e3,hh⟩]
 simp
theorem zvF (X w:Bs) (f k:Nat) (h:X=[]\/X.length+1<=f) (hk:f+w.length<=k):zbC X w=[]\/(zbC X w).length+1<=k+1:=by
 unfold zbC
 repeat' split
 ·rcases h with h | h
  ·exact .inl h
  exact .inr Om
 ·exact .inr Om
 rcases h with h | h
 ·exact absurd h As
 right;simp;omega
def zgB (B:Nat) (e:TypeId) (v:Value) (L:Bs) (w:World) (en:Ending) (w':World):Prop :=
 ∃ v',en=.returned v'/\w'.ownsRow B e 1 v' L.length (bc L)/\Chg (fun k=>some k=v.ownBlock) w w'
theorem zvG (B:Nat) (v:Value) (X:Bs) (x:ByteArray) (w:World) (h:w.ownsRow B 5 1 v X.length (bc X)) (hx:x.data.toList=[]) :
  Calls prog 188 #[v,.string x] w (zgB B 5 v (zbC X x.data.toList) w):=by
 have e:zbC X x.data.toList=X:=by rw [zbC,if_pos hx]
 rw [e]
 have dS:x.toList.isEmpty=true:=by rw [ByteArray.toList_eq,hx];rfl
 clear hx e
 go_enter func188,ntmps188
 go_wp2
 go_ret
 exact ⟨v,rfl,h,Chg.refl _ _⟩
theorem zvH (B:Nat) (v:Value) (x:ByteArray) (w:World) (h:w.ownsRow B 5 1 v 0 (bc [])) (hx:x.data.toList≠[]) (hB:B<=w.heap.size) (hm:x.size+1<=140737488355328) :
  Calls prog 188 #[v,.string x] w (zgB B 5 v x.data.toList w):=by
 have dS:x.toList.isEmpty=false:=by
  exact zns
 obtain ⟨a,c,rfl⟩:=zh h
 obtain ⟨i,hi,bO,bi,ce⟩:=info_parts Tryz.info5
 have HI:=Hy (An hi (An bO (An bi ce)))
 have HO:=Hy h
 clear hx h hi bO bi ce
 go_enter func188,ntmps188
 go_wp2_with (at_builtin;refine Lib.wpList_append_own_string _ rfl (.tmp 14) (.tmp 15) 176 9 rfl B 5 i underlying176 underlying9 HI.o.1 HI.o.2.1 HI.o.2.2.1 HI.o.2.2.2 _ 0 (bc []) rfl HO.o x rfl ?c1 ?c2 hB ?_)
 case c1=>unfold maxLen;omega
 case c2=>omega
 intro v2 w2 bg cf _
 go_wp2
 go_ret
 exact ⟨v2,rfl,by rw [znI] at bg;simpa [zl,bc] using bg,Chg.ofGrown cf⟩
theorem zvI (B:Nat) (v:Value) (X:Bs) (x:ByteArray) (w:World) (h:w.ownsRow B 5 1 v X.length (bc X)) (hx:x.data.toList≠[]) (hX:X≠[]) (hB:B<=w.heap.size) (hm:X.length+1+x.size<=140737488355328) :
  Calls prog 188 #[v,.string x] w (zgB B 5 v (X++32 :: x.data.toList) w):=by
 have dS:x.toList.isEmpty=false:=by
  exact zns
 have ke:0<X.length:=List.length_pos_iff.2 hX
 obtain ⟨a,c,rfl⟩:=zh h
 obtain ⟨i,hi,bO,bi,ce⟩:=info_parts Tryz.info5
 have HI:=Hy (An hi (An bO (An bi ce)))
 obtain ⟨n,hn⟩:=Ex X.length
 rw [hn] at h ke hm ⊢
 have HO:=Hy h
 clear hx h hi bO bi ce hX
 have mI:(0:Int)<(n:Int):=by omega
 go_enter func188,ntmps188
 go_wp2_with (at_builtin;refine zaM rfl (.tmp 11) (.tmp 12) 176 5 rfl B 1 1 (.int .u8 0) Tryz.info5 underlying176 rfl De [.int .u8 32] rfl ?c0 _ n _ rfl _ rfl ?c3 HO.o ?c1 ?c2 hB ?_)
 case c0=>intro u hu;simp at hu;subst hu;rfl
 case c1=>unfold maxLen;omega
 case c2=>omega
 case c3=>rfl
 intro v1 w1 bS bI au
 obtain ⟨a1,c1,rfl⟩:=zh bS
 have gR:B<=w1.heap.size:=Nat.le_trans hB bI.size
 go_wp2_with (at_builtin;refine Lib.wpList_append_own_string _ rfl (.tmp 14) (.tmp 15) 176 9 rfl B 5 i underlying176 underlying9 HI.o.1 HI.o.2.1 HI.o.2.2.1 HI.o.2.2.2 _ (n+1) _ rfl bS x rfl ?d1 ?d2 gR ?_)
 case d1=>unfold maxLen;omega
 case d2=>omega
 intro v2 w2 bg cf _
 go_wp2
 go_ret
 refine ⟨v2,rfl,?_,bI.trans (Chg.ofGrown cf) ?_⟩
 ·rw [znI] at bg
  have e:bc X++Value.int .u8 32 :: bc x.data.toList=bc (X++32 :: x.data.toList):=by simp [bc]
  rw [e] at bg
  have e2:(X++32 :: x.data.toList).length=n+1+x.size:=by rw [List.length_append,List.length_cons,zl,hn];omega
  rw [e2];exact bg
 intro k hk wV
 rcases au with au | ⟨k1,au,fM⟩
 ·rw [<- au];exact wV
 rw [au] at wV
 injection wV with wV
 omega
theorem znv (B:Nat) (v:Value) (X:Bs) (x:ByteArray) (w:World) (h:w.ownsRow B 5 1 v X.length (bc X)) (hB:B<=w.heap.size) (hm:X.length+1+x.size<=140737488355328) :
  Calls prog 188 #[v,.string x] w (zgB B 5 v (zbC X x.data.toList) w):=by
 by_cases hx:x.data.toList=[]
 ·exact zvG B v X x w h hx
 by_cases hX:X=[]
 ·subst hX
  rw [zbC,if_neg hx,if_pos rfl]
  exact zvH B v x w h hx hB (by simp at hm;omega)
 rw [zbC,if_neg hx,if_neg hX]
 exact zvI B v X x w h hx hX hB hm
theorem zez (s:ByteArray) (f p:Nat):(s.extract f p).data.toList=(s.data.toList.drop f).take (p - f):=Lib.extract_data s f p
theorem znw (l:Bs) (f p K:Nat) (mid:Bs) (hf:f<=p) (h:l.take (p+K)=l.take p++mid):(l.drop f).take (p+K - f)=(l.drop f).take (p - f)++mid:=by
 by_cases hp:p<=l.length
 ·rw [<- List.drop_take,<- List.drop_take,h,List.drop_append_of_le_length So]
 rw [List.take_of_length_le Om,List.take_of_length_le Om] at h
 have hm:mid=[]:=by simpa using h
 rw [hm,List.append_nil,List.take_of_length_le So,List.take_of_length_le So]
theorem zi3 (s:ByteArray) (w:World) (hm:s.size+1<=140737488355328) :
  Calls prog 164 #[.string s] w (zG (blL s.data.toList) w):=by
 obtain ⟨i0,hi,bO,bi,ce⟩:=info_parts Tryz.info5
 have HI:=Hy (An hi (An bO (An bi ce)))
 clear hi bO bi ce
 go_enter func164,ntmps164
 go_wp2_with (at_make;refine wpList_make_own _ rfl _ _ 176 rfl w.heap.size 5 i0 (.int .u8 0) 1 underlying176 HI.o.1 HI.o.2.1 HI.o.2.2.1 _ _ _ s.size rfl rfl ?e1 ?b0 ?b1 ?b2 ?_)
 case e1=>rfl
 case b0=>rw [HI.o.2.2.2];omega
 case b1=>unfold maxLen;omega
 case b2=>omega
 intro w1 bS bI
 have au:Below w.heap.size w w1:=(Br _).grown bI Lr (fun k hk=>by cases hk)
 have bi:=bI.size
 clear bI
 have H1:=Hy (An bS au)
 clear bS au
 go_wp2
 go_loopw [3,4] (fun o f wr=>∃ (pos from':Nat) (X:Bs),pos<=s.size/\from'<=pos/\f=.int .i64 from'/\wr.ownsRow w.heap.size 5 1 o X.length (bc X)/\wr.heap[w1.heap.size]?=some (.stringIter s pos)/\Below w.heap.size w wr/\w1.heap.size<wr.heap.size /\
  (X=[]\/X.length+1<=from')/\X++bl (neL X) (32 :: s.data.toList.drop from')=blL s.data.toList/\(∀ b∈(s.data.toList.drop from').take (pos - from'),b≠32)) (fun _ _ wr=>s.size - wr.iterPos w1.heap.size)
 case atStart =>
  refine ⟨0,0,[],by omega,by omega,rfl,?_,World.iter_heap w1 s 0,H1.o.2.alloc bi _,(Array.getElem?_eq_some_iff.1 (World.iter_heap w1 s 0)).1,.inl rfl,?_,fun b hb=>by simp at hb⟩
  ·exact H1.o.1.alloc _
  show bl false (32 :: s.data.toList)=_
  rw [bl,if_neg Sm,if_neg Sm];rfl
 case round =>
  obtain ⟨pos,from',X,ei,Mt,rfl,ab,eN,hb,aW,bD,hinv,mM⟩:=hrel
  have ik:=iterPos_of eN
  have hl:=zl s
  by_cases aj:pos<s.size
  ·have dI:∀ ty,(Instr.next (.pointer (some ⟨w1.heap.size,0,none⟩)) true ty).run prog wr=_:=fun ty=>Lib.run_next_any_at wr w1.heap.size s pos ty eN aj
   by_cases ha:s[pos].toNat<128
   ·rw [decode_ascii s pos aj ha] at dI
    simp only [] at dI
    have bK:=Lib.iterAt_heap wr _ s pos (pos+1) eN
    have bg:=znC ab eN (pos+1)
    have ak:=zeD hb (k:=w1.heap.size) bi s (pos+1)
    have eZ:w1.heap.size<(wr.iterAt w1.heap.size s (pos+1)).heap.size:=by rw [Lib.iterAt_size];exact aW
    obtain ⟨W2,aL⟩:=Ex (wr.iterAt w1.heap.size s (pos+1))
    rw [aL] at dI bK bg ak eZ
    have d6:=iterPos_of bK
    have iN:=znw s.data.toList from' pos 1 [s[pos]] Mt (zdb s pos aj)
    by_cases bA:s[pos].toNat=32
    ·have Mv:s[pos]=32:=UInt8.toNat_inj.1 bA
     have hcut:s.data.toList.drop from'=(s.data.toList.drop from').take (pos - from')++32 :: s.data.toList.drop (pos+1):=by
      conv=>lhs;rw [<- List.take_append_drop (pos - from') (s.data.toList.drop from')]
      rw [List.drop_drop,show from'+(pos - from')=pos by omega,zO s.data.toList pos Om,zay s pos aj,Mv]
     have kO:((s.data.toList.drop from').take (pos - from')).length=pos - from':=by simp;omega
     have kU:=zvF X _ from' pos bD (by rw [kO];omega)
     have bn:=znu X _ (32 :: s.data.toList.drop (pos+1)) mM (.inr ⟨_,rfl⟩)
     rw [<- hcut,hinv] at bn
     rw [<- zez] at kU bn
     have Cv:X.length+1+(s.extract from' pos).size<=140737488355328:=by
      rw [<- zl,zez,kO]
      rcases bD with rfl | bD
      ·simp;omega
      omega
     rw [bA] at dI
     have HC:=Hy (znv w.heap.size u3 X (s.extract from' pos) W2 bg ak.size Cv)
     have Mw:=zv5 bg bK
     have fo:=bg.lt
     have H:=Hy (An bK (An ak (An eZ (An ik (An Mw (An fo (An kU bn)))))))
     clear ab eN bg bK hb ak aW eZ ik d6 aL hinv mM bD iN hcut kO kU bn Cv ha bA Mv hl Mw fo
     go_wp2_with fail
     refine HC.o.mono ?_
     rintro e w3 ⟨v3,rfl,fH,uQ⟩
     obtain ⟨h1,h2,h3,h4,h5,h6,h7,h8⟩:=H.o
     have kT:=zV h1 uQ h5
     have aK:=h2.trans (uQ.toBelow h2.size (fun k _ hk=>(h6 k hk.symm).1))
     have pj:=iterPos_of kT
     have Cw:=Nat.lt_of_lt_of_le h3 uQ.size
     have H3:=Hy (An kT (An aK (An pj (An Cw fH))))
     clear kT aK pj Cw fH h1 h2 h3 h5 h6 uQ h7 h8 h4
     go_wp2
     obtain ⟨h1,h2,h3,h4,h5,h6,h7,h8⟩:=H.o
     obtain ⟨g1,g2,g3,g4,g5⟩:=H3.o
     refine ⟨⟨pos+1,pos+1,_,by omega,by omega,by go_num,g5,g1,g2,g4,h7,h8.symm,fun b hb=>by simp at hb⟩,by rw [h4,g3];omega⟩
    have jL:∀ b∈(s.data.toList.drop from').take (pos+1 - from'),b≠32:=by
     rw [iN]
     intro b hb
     rcases List.mem_append.1 hb with hb | hb
     ·exact mM b hb
     obtain rfl:=List.mem_singleton.1 hb
     intro e;apply bA;rw [e];rfl
    have H:=Hy (An bK (An ak (An eZ (An ik (An d6 (An bg (An bD (An hinv jL))))))))
    obtain ⟨c,hc⟩:=Ex (s[pos].toNat)
    rw [hc] at dI bA ha
    have eX:((c:Int)==32)=false:=by rw [beq_eq_false_iff_ne];omega
    clear ab eN bg bK hb ak aW eZ ik d6 aL hinv mM bD iN jL bA hc
    go_wp2
    obtain ⟨h1,h2,h3,h4,h5,h6,h7,h8,h9⟩:=H.o
    exact ⟨⟨pos+1,from',X,by omega,by omega,rfl,h6,h1,h2,h3,h7,h8,h9⟩,by rw [h4,h5];omega⟩
   obtain ⟨mid,m1,m2,m3,m4,m5,m6⟩:=zjb s pos aj Om
   obtain ⟨R,hR⟩:=Ex ((Utf8.decode s pos).1)
   obtain ⟨K,hK⟩:=Ex ((Utf8.decode s pos).2)
   rw [hR,hK] at dI
   rw [hR] at m6
   rw [hK] at m1 m4 m5
   have iN:=znw s.data.toList from' pos K mid Mt m1
   have jL:∀ b∈(s.data.toList.drop from').take (pos+K - from'),b≠32:=by
    rw [iN]
    intro b hb
    rcases List.mem_append.1 hb with hb | hb
    ·exact mM b hb
    have:=m3 b hb
    intro e;rw [e] at this;simp at this
   have bK:=Lib.iterAt_heap wr _ s pos (pos+K) eN
   have bg:=znC ab eN (pos+K)
   have ak:=zeD hb (k:=w1.heap.size) bi s (pos+K)
   have eZ:w1.heap.size<(wr.iterAt w1.heap.size s (pos+K)).heap.size:=by rw [Lib.iterAt_size];exact aW
   obtain ⟨W2,aL⟩:=Ex (wr.iterAt w1.heap.size s (pos+K))
   rw [aL] at dI bK bg ak eZ
   have d6:=iterPos_of bK
   have H:=Hy (An bK (An ak (An eZ (An ik (An d6 (An bg (An bD (An hinv jL))))))))
   have eX:((R:Int)==32)=false:=by rw [beq_eq_false_iff_ne];omega
   clear ab eN bg bK hb ak aW eZ ik d6 aL hinv mM bD iN jL hR hK m1 m2 m3 m6 ha
   go_wp2
   obtain ⟨h1,h2,h3,h4,h5,h6,h7,h8,h9⟩:=H.o
   exact ⟨⟨pos+K,from',X,by omega,by omega,rfl,h6,h1,h2,h3,h7,h8,h9⟩,by rw [h4,h5];omega⟩
  have dI:∀ ty,(Instr.next (.pointer (some ⟨w1.heap.size,0,none⟩)) true ty).run prog wr=_:=fun ty=>Lib.run_next_end_at wr w1.heap.size s pos ty eN aj
  obtain rfl:pos=s.size:=by omega
  have kO:(s.data.toList.drop from').take (s.size - from')=s.data.toList.drop from':=List.take_of_length_le (by rw [List.length_drop,hl];omega)
  rw [kO] at mM
  have bn:=znu X _ [] mM (.inl rfl)
  rw [List.append_nil,hinv] at bn
  have e0:∀ ne,bl ne []=[]:=fun ne=>rfl
  rw [e0,List.append_nil,<- kO,<- zez] at bn
  have Cv:X.length+1+(s.extract from' s.size).size<=140737488355328:=by
   rw [<- zl,zez,kO,List.length_drop,hl]
   rcases bD with rfl | bD
   ·simp;omega
   omega
  have HC:=Hy (znv w.heap.size u3 X (s.extract from' s.size) wr ab hb.size Cv)
  have fo:=ab.lt
  have H:=Hy (An hb (An fo bn))
  clear ab eN hb ik aW aj hinv mM bD kO bn Cv fo e0 hl
  go_wp2_with fail
  refine HC.o.mono ?_
  rintro e w3 ⟨v3,rfl,fH,uQ⟩
  obtain ⟨h1,h2,h3⟩:=H.o
  have aK:=h1.trans (uQ.toBelow h1.size (fun k _ hk=>(h2 k hk.symm).1))
  have gY:=zgH (P:=prog) (src:=176) (dst:=9) underlying176 underlying5 underlying9 fH
  have H3:=Hy aK
  clear aK fH uQ h1 h2 h3
  go_wp2
  go_ret
  exact zvC (by rw [H.o.2.2,zez]) H3.o
theorem zvJ (s:ByteArray) (w:World) (hm:s.size+1<=140737488355328) :
  Calls prog 159 #[.string s] w (zG (zah s.data.toList) w):=by
 obtain ⟨L,hL⟩:=Ex (blL s.data.toList)
 have HC:=Hy (zi3 s w hm)
 rw [hL] at HC
 have hF:zah s.data.toList=za L:=by rw [zah,hL]
 rw [hF]
 clear hL hF hm
 go_enter func159,ntmps159
 go_wp2_with fail
 refine HC.o.mono ?_
 rintro e w1 ⟨rfl,au⟩
 go_wp2_with fail
 refine (zco ⟨L.toArray⟩ w1).mono ?_
 rintro e w2 ⟨rfl,ak⟩
 have rk:=au.trans (ak.mono au.size)
 clear au ak
 go_wp2
 go_ret
 exact ⟨rfl,rk⟩
def za7 (l:Bs):Bool:=decide (l.head? = some 45)
theorem zgC (s:ByteArray) (h:0<s.size):s.data.toList.head? = some s[0]:=by
 have hl:=zl s
 rw [List.head?_eq_getElem?,List.getElem?_eq_getElem Om];rfl
theorem zvK (s:ByteArray) (h:0<s.size) (h0:s[0]=45):za7 s.data.toList=true:=by simp [za7,zgC s h,h0]
theorem zvL (s:ByteArray) (h:0<s.size) (h0:s[0]≠45):za7 s.data.toList=false:=by simp [za7,zgC s h,h0]
theorem znx (l:Bs) (h:za7 l=true):zal l=l.drop 1:=by rw [zal,if_pos (by simpa [za7] using h)]
theorem zny (l:Bs) (h:za7 l=false):zal l=l:=by rw [zal,if_neg (by simpa [za7] using h)]
theorem zvM (s:ByteArray) (h:0<s.size):(s.extract 0 1).data.toList=[s[0]]:=by
 have hl:=zl s
 rw [Lib.extract_data,List.drop_zero,show (1 - 0)=0+1 by omega,List.take_succ_eq_append_getElem Om];rfl
def zgD (l:Bs) (w:World) (en:Ending) (w':World):Prop:=en=.returned (.tuple #[.string ⟨(zal l).toArray⟩,.bool (za7 l)])/\w'=w
theorem zbD (x:ByteArray):(⟨x.data.toList.toArray⟩:ByteArray)=x:=by cases x;simp
theorem zvN (h1:zal l=x.data.toList) (h2:za7 l=b):zgD l w (.returned (.tuple #[.string x,.bool b])) w:=by
 refine ⟨?_,rfl⟩
 rw [h1,h2,zbD]
theorem zvO (s:ByteArray) (w:World) :
  Calls prog 189 #[.string s,.string ⟨#[45]⟩] w (zgD s.data.toList w):=by
 by_cases h:s.size=0
 ·have hn:s.data.toList=[]:=List.eq_nil_of_length_eq_zero (by rw [zl];exact h)
  have H:=Hy (An (show zal s.data.toList=s.data.toList by rw [hn];rfl) (show za7 s.data.toList=false by rw [hn];rfl))
  clear hn
  exact zi1
 have h1:1<=s.size:=by omega
 have h2:(1:Int)<=(s.size:Int):=by omega
 have hf:=zvM s Om
 by_cases h0:s[0]=45
 ·have ht:((s.extract 0 1).toList==[45])=true:=by rw [ByteArray.toList_eq,hf,h0];rfl
  have hm:=zvK s Om h0
  have H:=Hy (An (show zal s.data.toList=(s.extract 1 s.size).data.toList by rw [znx _ hm,Lib.extract_to_end]) hm)
  clear hf h0 hm h
  exact zi1
 have ht:((s.extract 0 1).toList==[45])=false:=by
  rw [ByteArray.toList_eq,hf,beq_eq_false_iff_ne];intro hh;injection hh;contradiction
 have hm:=zvL s Om h0
 have H:=Hy (An (zny _ hm) hm)
 clear hf h0 hm h
 exact zi1
def tz (l:Bs):Bs:=l.dropWhile (· == 48)
theorem zgE (c:UInt8) (l:Bs):tz (c :: l)=if c=48 then tz l else c :: l:=by
 unfold tz
 by_cases h:c=48 <;> simp [h]
theorem znz (l:Bs) (h:l≠[]):za9 l=if tz l=[] then [48] else tz l:=by
 induction l with
 | nil=>exact absurd rfl h
 | cons c r ih =>
  cases r with
  | nil =>
   rw [zgE]
   by_cases hc:c=48
   ·subst hc;rfl
   rw [if_neg hc,if_neg Sm];rfl
  | cons d r =>
   rw [za9,zgE]
   by_cases hc:c=48
   ·rw [if_pos hc,if_pos hc,ih Sm]
   rw [if_neg hc,if_neg hc,if_neg Sm]
theorem zvP (l:Bs):tz l≠[48]:=by
 induction l with
 | nil=>simp [tz]
 | cons c r ih =>
  rw [zgE]
  split
  ·exact ih
  intro h;injection h;contradiction
theorem zvQ (l:Bs):(tz l).length<=l.length:=by
 unfold tz;exact (List.dropWhile_sublist _).length_le
def zds:Value->Nat
 | .string x=>x.size
 | _=>0
def zeA (l:Bs) (w:World) (en:Ending) (w':World):Prop:=en=.returned (.string ⟨(tz l).toArray⟩)/\w'=w
theorem zi4 (h1:tz l=x.data.toList):zeA l w (.returned (.string x)) w:=by
 refine ⟨?_,rfl⟩
 rw [h1,zbD]
theorem zcX (x:ByteArray) (h:0<x.size):x.data.toList=x[0] :: (x.extract 1 x.size).data.toList:=by
 have hl:=zl x
 rw [Lib.extract_to_end]
 have h:=zO x.data.toList 0 Om
 rw [List.drop_zero] at h
 exact h
theorem zvR (s:ByteArray) (w:World) :
  Calls prog 214 #[.string s,.int .u8 48] w (zeA s.data.toList w):=by
 obtain ⟨L,hL⟩:=Ex s.data.toList
 rw [hL]
 go_enter func214,ntmps214
 go_wp2
 go_loop [0] (fun v=>∃ x:ByteArray,v=.string x/\tz x.data.toList=tz L) (fun v=>zds v)
 case atStart=>exact ⟨s,rfl,by rw [hL]⟩
 case round =>
  obtain ⟨x,rfl,hx⟩:=hrel
  by_cases h:x.size=0
  ·have hn:x.data.toList=[]:=List.eq_nil_of_length_eq_zero (by rw [zl];exact h)
   rw [hn] at hx
   have H:=Hy (hx.symm.trans (show tz []=x.data.toList by rw [hn];rfl))
   clear hx hn
   go_wp2
   go_ret
   exact zi4 H.o
  have hp:0<x.size:=by omega
  have h1:1<=x.size:=hp
  have h2:(0:Int)<(x.size:Int):=by omega
  have h3:(1:Int)<=(x.size:Int):=by omega
  have hcut:=zcX x hp
  rw [hcut,zgE] at hx
  have hb:=x[0].toNat_lt
  by_cases h0:x[0]=48
  ·rw [if_pos h0] at hx
   have ht:((x[0].toNat:Int)==48)=true:=by rw [h0];rfl
   have H:=Hy hx
   obtain ⟨c,hc⟩:=Ex (x[0].toNat)
   rw [hc] at ht hb
   clear hx hcut h0 h
   go_wp2
   refine ⟨⟨_,rfl,H.o⟩,?_⟩
   show (x.extract 1 x.size).size<x.size
   rw [<- zl (x.extract 1 x.size),Lib.extract_to_end,List.length_drop,zl];omega
  rw [if_neg h0] at hx
  have ht:((x[0].toNat:Int)==48)=false:=by
   rw [beq_eq_false_iff_ne];intro hh;apply h0;apply UInt8.toNat_inj.1;show _=48;omega
  rw [<- hcut] at hx
  have H:=Hy hx
  clear hx hcut h0 h
  go_wp2
  go_ret
  exact zi4 H.o.symm
theorem zvS (s:ByteArray) (w:World) :
  Calls prog 191 #[.string s,.string ⟨#[48]⟩] w (zeA s.data.toList w):=by
 cases hq:s.data.toList with
 | nil =>
  have dS:s.toList.isEmpty=true:=by rw [ByteArray.toList_eq,hq];rfl
  have H:=Hy (show tz []=s.data.toList by rw [hq];rfl)
  clear hq
  go_enter func191,ntmps191
  go_wp2
  go_ret
  exact zi4 H.o
 | cons a l =>
  have dS:s.toList.isEmpty=false:=by rw [ByteArray.toList_eq,hq];rfl
  have HC:=Hy (zvR s w)
  rw [hq] at HC
  clear hq
  go_enter func191,ntmps191
  go_wp2_with fail
  refine HC.o.mono ?_
  rintro e w1 ⟨rfl,hw⟩
  obtain rfl:=hw.symm
  go_wp2
  go_ret
  exact ⟨rfl,rfl⟩
def okD (l:Bs):Bool:=decide (1<=l.length) && decide (l.length<=32) && l.all zar
theorem zfx (l:Bs):zgU l=okD (zal l):=rfl
def zbE (b:Bool) (w:World) (en:Ending) (w':World):Prop:=en=.returned (.bool b)/\Below w.heap.size w w'
theorem zbF {a:Bool} (h:b=a) (hb:Below w.heap.size w w'):zbE b w (.returned (.bool a)) w':=by subst h;exact ⟨rfl,hb⟩
theorem zi5 (s:ByteArray) (p:Nat) (h:p<s.size) (hd:zar s[p]=false):okD s.data.toList=false:=by
 have hl:=zl s
 have:s.data.toList.all zar=false:=by
  rw [List.all_eq_false]
  exact ⟨s[p],List.getElem_mem (l:=s.data.toList) (n:=p) Om,by simp [hd]⟩
 simp [okD,this]
theorem zvT (s:ByteArray) (w:World) :
  Calls prog 190 #[.string s] w (zbE (okD s.data.toList) w):=by
 have hl:=zl s
 by_cases h0:s.size<1\/32<s.size
 ·have H:=Hy (show okD s.data.toList=false by simp [okD];omega)
  have GH:((s.size:Int)<1)\/(1<=(s.size:Int)/\(32:Int)<(s.size:Int)):=by omega
  clear h0 hl
  rcases GH with h0 | ⟨h0,h1⟩
  all_goals
   go_enter func190,ntmps190
   go_wp2
   go_ret
   exact zbF H.o (Br _)
 have h1:(1:Int)<=(s.size:Int):=by omega
 have h2:(s.size:Int)<=32:=by omega
 have HB:=Hy (zi5 s)
 have HN:=Hy (show 1<=s.size/\s.size<=32 by omega)
 clear h0
 go_enter func190,ntmps190
 go_wp2
 go_loopw [4] (fun _ wr=>∃ pos:Nat,pos<=s.size/\wr.heap[w.heap.size]?=some (.stringIter s pos)/\Below w.heap.size w wr/\(s.data.toList.take pos).all zar=true) (fun _ wr=>s.size - wr.iterPos w.heap.size)
 case atStart=>exact ⟨0,by omega,World.iter_heap w s 0,(Br _).alloc Lr _,rfl⟩
 case round =>
  obtain ⟨pos,ei,eN,hb,af⟩:=hrel
  have ik:=iterPos_of eN
  by_cases aj:pos<s.size
  ·have dI:∀ ty,(Instr.next (.pointer (some ⟨w.heap.size,0,none⟩)) true ty).run prog wr=_:=fun ty=>Lib.run_next_any_at wr w.heap.size s pos ty eN aj
   by_cases ha:s[pos].toNat<128
   ·rw [decode_ascii s pos aj ha] at dI
    simp only [] at dI
    have bK:=Lib.iterAt_heap wr _ s pos (pos+1) eN
    have ak:=zeD hb (k:=w.heap.size) Lr s (pos+1)
    obtain ⟨W2,aL⟩:=Ex (wr.iterAt w.heap.size s (pos+1))
    rw [aL] at dI bK ak
    have d6:=iterPos_of bK
    by_cases hd:zar s[pos]=true
    ·have eD:(s.data.toList.take (pos+1)).all zar=true:=by
      rw [zdb s pos aj,List.all_append,af];simp [hd]
     have H:=Hy (An bK (An ak (An ik (An d6 eD))))
     unfold zar at hd
     simp only [Bool.and_eq_true,decide_eq_true_eq] at hd
     obtain ⟨c,hc⟩:=Ex (s[pos].toNat)
     rw [hc] at dI hd ha
     have ef:(48:Int)<=(c:Int):=by omega
     have j8:(c:Int)<=57:=by omega
     clear eN hb bK ak ik d6 aL af eD hc hd
     go_wp2
     obtain ⟨g1,g2,g3,g4,g5⟩:=H.o
     exact ⟨⟨pos+1,by omega,g1,g2,g5⟩,by rw [g3,g4];omega⟩
    have qm:zar s[pos]=false:=by simpa using hd
    have H:=Hy (An (HB.o pos aj qm) ak)
    unfold zar at qm
    simp only [Bool.and_eq_false_iff,decide_eq_false_iff_not] at qm
    obtain ⟨c,hc⟩:=Ex (s[pos].toNat)
    rw [hc] at dI qm ha
    have j8:(c:Int)<48\/(48:Int)<=(c:Int)/\(57:Int)<(c:Int):=by omega
    clear eN hb bK ak ik d6 aL af hc hd qm
    rcases j8 with j8 | ⟨j8,qJ⟩
    all_goals
     go_wp2
     go_ret
     exact zbF H.o.1 H.o.2
   obtain ⟨mid,m1,m2,m3,m4,m5,m6⟩:=zjb s pos aj Om
   have ak:=zeD hb (k:=w.heap.size) Lr s (pos+(Utf8.decode s pos).2)
   have qm:zar s[pos]=false:=by unfold zar;simp;omega
   have H:=Hy (An (HB.o pos aj qm) ak)
   obtain ⟨R,hR⟩:=Ex ((Utf8.decode s pos).1)
   obtain ⟨K,hK⟩:=Ex ((Utf8.decode s pos).2)
   rw [hR,hK] at dI
   rw [hR] at m6
   rw [hK] at H
   obtain ⟨W2,aL⟩:=Ex (wr.iterAt w.heap.size s (pos+K))
   rw [aL] at dI H
   have j8:(48:Int)<=(R:Int):=by omega
   have qJ:(57:Int)<(R:Int):=by omega
   clear eN hb ak ik aL af hR hK m1 m2 m3 m4 m5 m6 ha qm
   go_wp2
   go_ret
   exact zbF H.o.1 H.o.2
  have dI:∀ ty,(Instr.next (.pointer (some ⟨w.heap.size,0,none⟩)) true ty).run prog wr=_:=fun ty=>Lib.run_next_end_at wr w.heap.size s pos ty eN aj
  obtain rfl:pos=s.size:=by omega
  rw [List.take_of_length_le Om] at af
  have H:=Hy (An (show okD s.data.toList=true by have:=HN.o;simp only [okD,af,Bool.and_true,Bool.and_eq_true,decide_eq_true_eq];omega) hb)
  clear eN hb ik af
  go_wp2
  go_ret
  exact zbF H.o.1 H.o.2
theorem zdX:∀ (x y:Bs),Op.bytesLess x y=ltB x y
 | x,[]=>by cases x <;> simp [Op.bytesLess,ltB]
 | [],_ :: _=>by simp [Op.bytesLess,ltB]
 | a :: x,b :: y=>by
  rw [Op.bytesLess,zdX x y,ltB,ltB,Bool.eq_iff_iff]
  simp only [Bool.or_eq_true,Bool.and_eq_true,decide_eq_true_eq,beq_iff_eq,List.cons_lt_cons_iff]
theorem znA (l:Bs) (h:okD (zal l)=false):zaN l=([],false):=by rw [zaN,zfx,if_pos h]
theorem zi6 (l:Bs) (h:okD l=true):l≠[]/\l.length<=32:=by
 simp only [okD,Bool.and_eq_true,decide_eq_true_eq] at h
 refine ⟨?_,h.1.2⟩
 rintro rfl
 simp at h
theorem zvU (l:Bs) (h:okD (zal l)=true) (ht:tz (zal l)=[]):zaN l=([48],true):=by
 rw [zaN,zfx,if_neg (by simp [h]),znz _ (zi6 _ h).1,if_pos ht,if_pos rfl]
theorem zvV (l:Bs) (h:okD (zal l)=true) (ht:tz (zal l)≠[]):zaN l=((if za7 l=true then [45] else [])++tz (zal l),true):=by
 rw [zaN,zfx,if_neg (by simp [h]),znz _ (zi6 _ h).1,if_neg ht,if_neg (zvP _)]
 by_cases hm:l.head? = some 45 <;> simp [za7,hm]
def zgF (l:Bs) (w:World) (en:Ending) (w':World):Prop:=en=.returned (.tuple #[.string ⟨(zaN l).1.toArray⟩,.bool (zaN l).2])/\Below w.heap.size w w'
theorem zgG (h:zaN l=(a,b)) (hb:Below w.heap.size w w'):zgF l w (.returned (.tuple #[.string ⟨a.toArray⟩,.bool b])) w':=by
 refine ⟨?_,hb⟩
 rw [h]
theorem zvW (s:ByteArray) (w:World) :
  Calls prog 165 #[.string s] w (zgF s.data.toList w):=by
 obtain ⟨L,hL⟩:=Ex s.data.toList
 have HC:=Hy (zvO s)
 rw [hL] at HC ⊢
 obtain ⟨D,hD⟩:=Ex (zal L)
 obtain ⟨m,hm⟩:=Ex (za7 L)
 obtain ⟨T,hT⟩:=Ex (tz D)
 have cu:=Hy (zvT ⟨D.toArray⟩)
 have gM:=Hy (zvS ⟨D.toArray⟩)
 have e1:zgD L=fun w en w'=>en=.returned (.tuple #[.string ⟨D.toArray⟩,.bool m])/\w'=w:=by unfold zgD;rw [hD,hm]
 rw [e1] at HC
 by_cases aS:okD D=true
 ·have aH:=zi6 D aS
  have e2:zbE (okD D)=fun w en w'=>en=.returned (.bool true)/\Below w.heap.size w w':=by unfold zbE;rw [aS]
  change Hd (∀ w,Calls prog _ _ w (zbE (okD D) w)) at cu
  rw [e2] at cu
  have e3:zeA D=fun w en w'=>en=.returned (.string ⟨T.toArray⟩)/\w'=w:=by unfold zeA;rw [hT]
  change Hd (∀ w,Calls prog _ _ w (zeA D w)) at gM
  rw [e3] at gM
  have jo:T.length<=32:=by rw [<- hT];exact Nat.le_trans (zvQ D) aH.2
  by_cases h0:T=[]
  ·have HR:=Hy (zvU L (by rw [hD];exact aS) (by rw [hD,hT];exact h0))
   subst h0
   clear hL hD hm hT e1 e2 e3 aS aH
   go_enter func165,ntmps165
   go_wp2_with fail
   refine (HC.o _).mono ?_
   rintro e w1 ⟨rfl,hw⟩
   obtain rfl:=hw.symm
   go_wp2_with fail
   refine (cu.o _).mono ?_
   rintro e w2 ⟨rfl,ak⟩
   go_wp2_with fail
   refine (gM.o _).mono ?_
   rintro e w3 ⟨rfl,hw⟩
   obtain rfl:=hw.symm
   go_wp2
   go_ret2
   exact zgG HR.o ak
  have dS:T.isEmpty=false:=by cases T with
   | nil=>exact absurd rfl h0
   | cons a l=>rfl
  have HR:=Hy (zvV L (by rw [hD];exact aS) (by rw [hD,hT];exact h0))
  rw [hD,hT,hm] at HR
  clear hL hD hm hT e1 e2 e3 aS aH h0
  cases m
  ·have gG:=Hy (show zaN L=(T,true) by rw [HR.o];simp)
   go_enter func165,ntmps165
   go_wp2_with fail
   refine (HC.o _).mono ?_
   rintro e w1 ⟨rfl,hw⟩
   obtain rfl:=hw.symm
   go_wp2_with fail
   refine (cu.o _).mono ?_
   rintro e w2 ⟨rfl,ak⟩
   go_wp2_with fail
   refine (gM.o _).mono ?_
   rintro e w3 ⟨rfl,hw⟩
   obtain rfl:=hw.symm
   go_wp2
   go_ret2
   exact zgG gG.o ak
  have gG:=Hy (show zaN L=(45 :: T,true) by rw [HR.o];simp)
  go_enter func165,ntmps165
  go_wp2_with fail
  refine (HC.o _).mono ?_
  rintro e w1 ⟨rfl,hw⟩
  obtain rfl:=hw.symm
  go_wp2_with fail
  refine (cu.o _).mono ?_
  rintro e w2 ⟨rfl,ak⟩
  go_wp2_with fail
  refine (gM.o _).mono ?_
  rintro e w3 ⟨rfl,hw⟩
  obtain rfl:=hw.symm
  go_wp2
  go_ret2
  rw [zvX]
  exact zgG gG.o ak
 have uR:okD D=false:=by simpa using aS
 have e2:zbE (okD D)=fun w en w'=>en=.returned (.bool false)/\Below w.heap.size w w':=by unfold zbE;rw [uR]
 change Hd (∀ w,Calls prog _ _ w (zbE (okD D) w)) at cu
 rw [e2] at cu
 have HR:=Hy (znA L (by rw [hD];exact uR))
 clear hL hD hm hT e1 e2 aS uR gM
 go_enter func165,ntmps165
 go_wp2_with fail
 refine (HC.o _).mono ?_
 rintro e w1 ⟨rfl,hw⟩
 obtain rfl:=hw.symm
 go_wp2_with fail
 refine (cu.o _).mono ?_
 rintro e w2 ⟨rfl,ak⟩
 go_wp2
 go_ret2
 exact zgG (a:=[]) HR.o ak
end Go.Proofs.YtijglbolppkefaaGreatDoor
