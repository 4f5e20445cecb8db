/- Contracts of the library laid at. -/
import Derived.Shelf.SlSortCmp.NoneTotal
import Derived.Shelf.Small.Strs
import Derived.Ground.SlsfProg
import Derived.Ground.NamesProg
import Derived.Ground.Names8Prog
import Derived.Test.YtijglbolppkefaaGreatDoorChecked
import Derived.Shelf.SlSortCmp.SmallK
import Derived.Shelf.Small.Bits
import Derived.WalkKit
import Derived.Lib.IndexMore
import Derived.Lib.IndexLaws
import Derived.Lib.Strings
import Derived.Test.YtijglbolppkefaaGreatDoorGenA
import Derived.ProofKit
import Derived.OpenShut
import Derived.ShutString
import Derived.SliceStrings
import Derived.Carry
set_option linter.unusedVariables false
set_option linter.unusedSimpArgs false
set_option maxHeartbeats 25600000
set_option maxRecDepth 100000
namespace Go.Proofs.YtijglbolppkefaaGreatDoor
open Go Go.Shelf Go.Proofs.BerK
theorem zoG {p:Prop} (h:p:=by
 obtain ⟨u,hu,rfl⟩:=Option.map_eq_some_iff.1 h
 have:=List.find?_some hu
 simpa using this):p:=h
def Tryz.sortAtr_ren:Go.Shelf.Ren:=⟨fun | 6=>108 | 15=>148 | 14=>147 | 28=>181 | 29=>182 | 20=>173 | 21=>174 | 22=>175 | 23=>176 | 24=>177 | 25=>178 | 26=>179 | 27=>180 | 46=>198 | 47=>199 | 48=>200 | 49=>201 | 50=>202 | 57=>226 | n=>n,fun | 22=>37 | 24=>74 | 25=>169 | 3=>3 | 39=>170 | 0=>0 | 53=>225 | 55=>227 | 4=>4 | 46=>219 | 45=>218 | 50=>113 | 5=>5 | 9=>9 | 66=>237 | 70=>241 | 76=>260 | 77=>261 | n=>n,fun | n=>n⟩
theorem Tryz.sortAtr:Go.Proofs.SlLaysF0.n6 Tryz.prog Tryz.sortAtr_ren:={
 mixed:=by kernel_rfl
 f6:=⟨Tryz.f108.name,by decide,Tryz.func108.trans (congrArg some Kr)⟩
 f14:=⟨Tryz.f147.name,by decide,Tryz.func147.trans (congrArg some Kr)⟩
 f15:=Tryz.func148.trans (congrArg some Kr)
 f20:=⟨Tryz.f173.name,by decide,Tryz.func173.trans (congrArg some Kr)⟩
 f21:=⟨Tryz.f174.name,by decide,Tryz.func174.trans (congrArg some Kr)⟩
 f22:=⟨Tryz.f175.name,by decide,Tryz.func175.trans (congrArg some Kr)⟩
 f23:=⟨Tryz.f176.name,by decide,Tryz.func176.trans (congrArg some Kr)⟩
 f24:=⟨Tryz.f177.name,by decide,Tryz.func177.trans (congrArg some Kr)⟩
 f25:=⟨Tryz.f178.name,by decide,Tryz.func178.trans (congrArg some Kr)⟩
 f26:=⟨Tryz.f179.name,by decide,Tryz.func179.trans (congrArg some Kr)⟩
 f27:=⟨Tryz.f180.name,by decide,Tryz.func180.trans (congrArg some Kr)⟩
 f28:=Tryz.func181.trans (congrArg some Kr)
 f29:=Tryz.func182.trans (congrArg some Kr)
 f46:=⟨Tryz.f198.name,by decide,Tryz.func198.trans (congrArg some Kr)⟩
 f47:=Tryz.func199.trans (congrArg some Kr)
 f48:=Tryz.func200.trans (congrArg some Kr)
 f49:=⟨Tryz.f201.name,by decide,Tryz.func201.trans (congrArg some Kr)⟩
 f50:=⟨Tryz.f202.name,by decide,Tryz.func202.trans (congrArg some Kr)⟩
 f57:=⟨Tryz.f226.name,by decide,Tryz.func226.trans (congrArg some Kr)⟩
 t0:=Tryz.underlying0
 a0:=Tryz.isAgg0
 z0:=Tryz.sizeOf0
 v0:=Tryz.zeroValue0
 t3:=Tryz.underlying3
 a3:=Tryz.isAgg3
 z3:=Tryz.sizeOf3
 v3:=Tryz.zeroValue3
 t4:=Tryz.underlying4
 a4:=Tryz.isAgg4
 z4:=Tryz.sizeOf4
 v4:=Tryz.zeroValue4
 t5:=Tryz.underlying5
 a5:=Tryz.isAgg5
 z5:=Tryz.sizeOf5
 v5:=Tryz.zeroValue5
 t9:=Tryz.underlying9
 a9:=Tryz.isAgg9
 z9:=Tryz.sizeOf9
 v9:=Tryz.zeroValue9
 t22:=Tryz.underlying37
 a22:=Tryz.isAgg37
 z22:=Tryz.sizeOf37
 v22:=Tryz.zeroValue37
 t25:=Tryz.underlying169
 a25:=Tryz.isAgg169
 z25:=Tryz.sizeOf169
 v25:=Tryz.zeroValue169
 t39:=Tryz.underlying170
 a39:=Tryz.isAgg170
 z39:=Tryz.sizeOf170
 v39:=Tryz.zeroValue170
 t45:=Tryz.underlying218
 a45:=Tryz.isAgg218
 z45:=Tryz.sizeOf218
 v45:=Tryz.zeroValue218
 t46:=Tryz.underlying219
 a46:=Tryz.isAgg219
 z46:=Tryz.sizeOf219
 v46:=Tryz.zeroValue219
 t50:=Tryz.underlying113
 a50:=Tryz.isAgg113
 z50:=Tryz.sizeOf113
 v50:=Tryz.zeroValue113
 t53:=Tryz.underlying225
 a53:=Tryz.isAgg225
 z53:=Tryz.sizeOf225
 v53:=Tryz.zeroValue225
 t55:=Tryz.underlying227
 a55:=Tryz.isAgg227
 z55:=Tryz.sizeOf227
 v55:=Tryz.zeroValue227
 t66:=Tryz.underlying237
 a66:=Tryz.isAgg237
 z66:=Tryz.sizeOf237
 v66:=Tryz.zeroValue237
 t70:=Tryz.underlying241
 a70:=Tryz.isAgg241
 z70:=Tryz.sizeOf241
 v70:=Tryz.zeroValue241
 t76:=Tryz.underlying260
 a76:=Tryz.isAgg260
 z76:=Tryz.sizeOf260
 v76:=Tryz.zeroValue260
 t77:=Tryz.underlying261
 a77:=Tryz.isAgg261
 z77:=Tryz.sizeOf261
 v77:=Tryz.zeroValue261 }
def Tryz.strCmp_ren:Go.Shelf.Ren:=⟨fun | 106=>62 | 213=>110 | 265=>149 | n=>n,fun | 9=>9 | 3=>3 | n=>n,fun | n=>n⟩
theorem Tryz.strCmp:Go.Proofs.Lays.n106 Tryz.prog Tryz.strCmp_ren:={
 mixed:=by kernel_rfl
 f106:=Tryz.func62.trans (congrArg some Kr)
 f213:=Tryz.func110.trans (congrArg some Kr)
 f265:=Tryz.func149.trans (congrArg some Kr)
 t3:=Tryz.underlying3
 a3:=Tryz.isAgg3
 z3:=Tryz.sizeOf3
 v3:=Tryz.zeroValue3
 t9:=Tryz.underlying9
 a9:=Tryz.isAgg9
 z9:=Tryz.sizeOf9
 v9:=Tryz.zeroValue9 }
def Tryz.bitsLen6_ren:Go.Shelf.Ren:=⟨fun | 125=>148 | 128=>181 | 129=>182 | n=>n,fun | 46=>170 | 3=>3 | 51=>225 | 53=>227 | 4=>4 | 5=>5 | 9=>9 | n=>n,fun | n=>n⟩
theorem Tryz.bitsLen6:Go.Proofs.Lays.n125 Tryz.prog Tryz.bitsLen6_ren:={
 mixed:=by kernel_rfl
 f125:=Tryz.func148.trans (congrArg some Kr)
 f128:=Tryz.func181.trans (congrArg some Kr)
 f129:=Tryz.func182.trans (congrArg some Kr)
 t3:=Tryz.underlying3
 a3:=Tryz.isAgg3
 z3:=Tryz.sizeOf3
 v3:=Tryz.zeroValue3
 t4:=Tryz.underlying4
 a4:=Tryz.isAgg4
 z4:=Tryz.sizeOf4
 v4:=Tryz.zeroValue4
 t5:=Tryz.underlying5
 a5:=Tryz.isAgg5
 z5:=Tryz.sizeOf5
 v5:=Tryz.zeroValue5
 t9:=Tryz.underlying9
 a9:=Tryz.isAgg9
 z9:=Tryz.sizeOf9
 v9:=Tryz.zeroValue9
 t46:=Tryz.underlying170
 a46:=Tryz.isAgg170
 z46:=Tryz.sizeOf170
 v46:=Tryz.zeroValue170
 t51:=Tryz.underlying225
 a51:=Tryz.isAgg225
 z51:=Tryz.sizeOf225
 v51:=Tryz.zeroValue225
 t53:=Tryz.underlying227
 a53:=Tryz.isAgg227
 z53:=Tryz.sizeOf227
 v53:=Tryz.zeroValue227 }
def Tryz.sortRow6_ren:Go.Shelf.Ren:=⟨fun | 14=>185 | 20=>203 | 21=>204 | 22=>205 | 23=>206 | 24=>207 | 25=>208 | 26=>209 | 27=>210 | 46=>227 | 47=>199 | 48=>200 | 49=>228 | 50=>229 | 15=>148 | 57=>239 | 28=>181 | 29=>182 | n=>n,fun | 24=>144 | 22=>139 | 3=>3 | 25=>211 | 4=>4 | 0=>0 | 46=>219 | 45=>218 | 50=>113 | 66=>237 | 39=>170 | 55=>227 | 70=>241 | 76=>260 | 77=>261 | 53=>225 | 5=>5 | 9=>9 | n=>n,fun | n=>n⟩
theorem Tryz.sortRow6:Go.Proofs.SlLaysF0.n14 Tryz.prog Tryz.sortRow6_ren:={
 mixed:=by kernel_rfl
 f14:=⟨Tryz.f185.name,by decide,Tryz.func185.trans (congrArg some Kr)⟩
 f15:=Tryz.func148.trans (congrArg some Kr)
 f20:=⟨Tryz.f203.name,by decide,Tryz.func203.trans (congrArg some Kr)⟩
 f21:=⟨Tryz.f204.name,by decide,Tryz.func204.trans (congrArg some Kr)⟩
 f22:=⟨Tryz.f205.name,by decide,Tryz.func205.trans (congrArg some Kr)⟩
 f23:=⟨Tryz.f206.name,by decide,Tryz.func206.trans (congrArg some Kr)⟩
 f24:=⟨Tryz.f207.name,by decide,Tryz.func207.trans (congrArg some Kr)⟩
 f25:=⟨Tryz.f208.name,by decide,Tryz.func208.trans (congrArg some Kr)⟩
 f26:=⟨Tryz.f209.name,by decide,Tryz.func209.trans (congrArg some Kr)⟩
 f27:=⟨Tryz.f210.name,by decide,Tryz.func210.trans (congrArg some Kr)⟩
 f28:=Tryz.func181.trans (congrArg some Kr)
 f29:=Tryz.func182.trans (congrArg some Kr)
 f46:=⟨Tryz.f227.name,by decide,Tryz.func227.trans (congrArg some Kr)⟩
 f47:=Tryz.func199.trans (congrArg some Kr)
 f48:=Tryz.func200.trans (congrArg some Kr)
 f49:=⟨Tryz.f228.name,by decide,Tryz.func228.trans (congrArg some Kr)⟩
 f50:=⟨Tryz.f229.name,by decide,Tryz.func229.trans (congrArg some Kr)⟩
 f57:=⟨Tryz.f239.name,by decide,Tryz.func239.trans (congrArg some Kr)⟩
 t0:=Tryz.underlying0
 a0:=Tryz.isAgg0
 z0:=Tryz.sizeOf0
 v0:=Tryz.zeroValue0
 t3:=Tryz.underlying3
 a3:=Tryz.isAgg3
 z3:=Tryz.sizeOf3
 v3:=Tryz.zeroValue3
 t4:=Tryz.underlying4
 a4:=Tryz.isAgg4
 z4:=Tryz.sizeOf4
 v4:=Tryz.zeroValue4
 t5:=Tryz.underlying5
 a5:=Tryz.isAgg5
 z5:=Tryz.sizeOf5
 v5:=Tryz.zeroValue5
 t9:=Tryz.underlying9
 a9:=Tryz.isAgg9
 z9:=Tryz.sizeOf9
 v9:=Tryz.zeroValue9
 t22:=Tryz.underlying139
 a22:=Tryz.isAgg139
 z22:=Tryz.sizeOf139
 v22:=Tryz.zeroValue139
 t25:=Tryz.underlying211
 a25:=Tryz.isAgg211
 z25:=Tryz.sizeOf211
 v25:=Tryz.zeroValue211
 t39:=Tryz.underlying170
 a39:=Tryz.isAgg170
 z39:=Tryz.sizeOf170
 v39:=Tryz.zeroValue170
 t45:=Tryz.underlying218
 a45:=Tryz.isAgg218
 z45:=Tryz.sizeOf218
 v45:=Tryz.zeroValue218
 t46:=Tryz.underlying219
 a46:=Tryz.isAgg219
 z46:=Tryz.sizeOf219
 v46:=Tryz.zeroValue219
 t50:=Tryz.underlying113
 a50:=Tryz.isAgg113
 z50:=Tryz.sizeOf113
 v50:=Tryz.zeroValue113
 t53:=Tryz.underlying225
 a53:=Tryz.isAgg225
 z53:=Tryz.sizeOf225
 v53:=Tryz.zeroValue225
 t55:=Tryz.underlying227
 a55:=Tryz.isAgg227
 z55:=Tryz.sizeOf227
 v55:=Tryz.zeroValue227
 t66:=Tryz.underlying237
 a66:=Tryz.isAgg237
 z66:=Tryz.sizeOf237
 v66:=Tryz.zeroValue237
 t70:=Tryz.underlying241
 a70:=Tryz.isAgg241
 z70:=Tryz.sizeOf241
 v70:=Tryz.zeroValue241
 t76:=Tryz.underlying260
 a76:=Tryz.isAgg260
 z76:=Tryz.sizeOf260
 v76:=Tryz.zeroValue260
 t77:=Tryz.underlying261
 a77:=Tryz.isAgg261
 z77:=Tryz.sizeOf261
 v77:=Tryz.zeroValue261 }
end Go.Proofs.YtijglbolppkefaaGreatDoor
namespace Go.Proofs.YtijglbolppkefaaGreatDoor
open Go.Proofs.BerK
def zbg (c:UInt8):UInt8:=if 65<=c.toNat/\c.toNat<=90 then UInt8.ofNat (c.toNat+32) else c
def za (l:Bs):Bs:=l.map zbg
theorem zd0 (c:UInt8):(zbg c).toNat=if 65<=c.toNat/\c.toNat<=90 then c.toNat+32 else c.toNat:=by
 unfold zbg
 split
 ·rename_i h
  rw [UInt8.toNat_ofNat'];omega
 rfl
theorem zxE (c:UInt8):zbg (zbg c)=zbg c:=by
 apply UInt8.toNat_inj.1
 rw [zd0 (zbg c),zd0 c]
 by_cases h:65<=c.toNat/\c.toNat<=90
 ·rw [if_pos h,if_neg Om]
 rw [if_neg h,if_neg h]
theorem zoH (c:UInt8):(zbg c=32) ↔ (c=32):=by
 constructor
 ·intro h
  have h1:=congrArg UInt8.toNat h
  rw [zd0] at h1
  apply UInt8.toNat_inj.1
  show c.toNat=32
  have:(32:UInt8).toNat=32:=rfl
  split at h1 <;> omega
 rintro rfl;rfl
theorem zjL (l:Bs):za (za l)=za l:=by
 simp [za,zxE]
theorem zdC (l:Bs):(za l).length=l.length:=by simp [za]
def hdn:Bs->Bool
 | []=>false
 | c :: _=>c != 32
def bl:Bool->Bs->Bs
 | _,[]=>[]
 | ne,c :: r=>if c≠32 then c :: bl true r else if ne=true/\hdn r=true then 32 :: bl ne r else bl ne r
def blL (l:Bs):Bs:=bl false l
theorem zxF (l:Bs):∀ ne,(bl ne l).length<=l.length:=by
 induction l with
 | nil=>intro ne;simp [bl]
 | cons c r ih =>
  intro ne
  rw [bl]
  split
  ·have:=ih true;simp;omega
  split
  ·have:=ih ne;simp;omega
  have:=ih ne;simp;omega
theorem zjM (l:Bs):(blL l).length<=l.length:=zxF l false
theorem zxG (l:Bs):hdn (za l)=hdn l:=by
 cases l with
 | nil=>rfl
 | cons c r =>
  show (zbg c != 32)=(c != 32)
  rw [Bool.eq_iff_iff,bne_iff_ne,bne_iff_ne]
  exact not_congr (zoH c)
theorem zxH (l:Bs):∀ ne,za (bl ne l)=bl ne (za l):=by
 induction l with
 | nil=>intro ne;rfl
 | cons c r ih =>
  intro ne
  have CJ:za (c :: r)=zbg c :: za r:=rfl
  rw [CJ,bl,bl,zxG]
  by_cases hc:c=32
  ·subst hc
   have bA:zbg 32=32:=rfl
   rw [bA]
   simp only [ne_eq,not_true_eq_false,if_false]
   split
   ·rw [<- ih ne];rfl
   exact ih ne
  rw [if_pos hc,if_pos (fun h=>hc ((zoH c).1 h)),<- ih true];rfl
def zah (l:Bs):Bs:=za (blL l)
theorem zxI (l:Bs):(zah l).length<=l.length:=by
 unfold zah
 rw [zdC];exact zjM l
def zar (c:UInt8):Bool:=decide (48<=c.toNat) && decide (c.toNat<=57)
def za9:Bs->Bs
 | []=>[]
 | [c]=>[c]
 | c :: d :: r=>if c=48 then za9 (d :: r) else c :: d :: r
def zal (l:Bs):Bs:=if l.head? = some 45 then l.drop 1 else l
def zgU (l:Bs):Bool:=decide (1<=(zal l).length) && decide ((zal l).length<=32) && (zal l).all zar
def zaN (l:Bs):Bs × Bool :=
 if zgU l=false then ([],false) else
 if za9 (zal l)=[48] then ([48],true) else
 ((if l.head? = some 45 then [45] else [])++za9 (zal l),true)
def zxJ (z:Bs):Prop:=z.length<=32/\z.all zar=true/\((∃ c,z=[c])\/∃ c d r,z=c :: d :: r/\c≠48)
theorem zxK (l:Bs) (h0:1<=l.length) (h1:l.length<=32) (h2:l.all zar=true):zxJ (za9 l):=by
 induction l with
 | nil=>simp at h0
 | cons c r ih =>
  cases r with
  | nil=>exact ⟨h1,h2,.inl ⟨c,rfl⟩⟩
  | cons d r =>
   rw [za9]
   split
   ·exact ih Sm (by simp at h1 ⊢;omega) (by simp at h2 ⊢;exact h2.2)
   rename_i hc
   exact ⟨h1,h2,.inr ⟨c,d,r,rfl,hc⟩⟩
def ltB (a b:Bs):Bool:=decide (a<b)
theorem zgV (a:Bs):ltB a a=false:=by
 unfold ltB
 simp [List.lt_irrefl]
theorem zgW {a b c:Bs} (h1:ltB a b=true) (h2:ltB b c=true):ltB a c=true:=by
 unfold ltB at *
 simp only [decide_eq_true_eq] at *
 exact List.lt_trans h1 h2
theorem zxL (a b:Bs) (h:a≠b):ltB a b=true\/ltB b a=true:=by
 unfold ltB
 simp only [decide_eq_true_eq]
 rcases Decidable.em (a<b) with h1 | h1
 ·exact .inl h1
 right
 have h2:b<=a:=List.not_lt.1 h1
 rcases Decidable.em (b<a) with h3 | h3
 ·exact h3
 exact absurd (List.le_antisymm (List.not_lt.1 h3) h2) h
def zW (c:Nat):Bool:=decide (65<=c) && decide (c<=90) || decide (97<=c) && decide (c<=122)
def tcN (c:Nat):Bool:=zW c || decide (48<=c) && decide (c<=57) || decide (c=45)
def zau (c:Nat):Bool:=decide (c<32) || decide (c=127)
def spN (c:Nat):Bool:=decide (c=44) || decide (c=43) || decide (c=34) || decide (c=92) || decide (c=60) || decide (c=62) || decide (c=59) || decide (c=61)
def mkN (first last:Bool) (c:Nat):Bool:=if c=32 then first || last else if c=35 then first else spN c
def zaO (c:Nat):Bool:=spN c || decide (c=32) || decide (c=35)
def hxD (n:Nat):UInt8:=if n<10 then UInt8.ofNat (48+n) else UInt8.ofNat (87+n)
def hxN (c:Nat):Nat:=if 48<=c/\c<=57 then c - 48 else if 97<=c/\c<=102 then c - 87 else if 65<=c/\c<=70 then c - 55 else 16
def hdP (p:Nat->Bool):Bs->Bool | []=>false | c :: _=>p c.toNat
def tyL (s:Bs):Bool:=hdP zW s && decide (s.length<=64) && s.all fun c=>tcN c.toNat
def e1L (first last:Bool) (c:UInt8):Bs:=if zau c.toNat=true then [92,hxD (c.toNat/16),hxD (c.toNat%16)] else if mkN first last c.toNat=true then [92,c] else [c]
def egL:Bool->Bs->Bs | _,[]=>[] | f,c :: r=>e1L f r.isEmpty c++egL false r
def esL (s:Bs):Bs:=egL true s
abbrev Av:=Bs × Bs
def jnL (sep:UInt8):Bool->List (Bs)->Bs | _,[]=>[] | f,x :: r=>(if f=true then [] else [sep])++(x++jnL sep false r)
def avL (p:Av):Bs:=p.1++61 :: esL p.2
def ptL (r:List Av):Bs:=jnL 43 true (r.map avL)
def nmL (d:List (List Av)):Bs:=jnL 44 true (d.map ptL)
def twL (seen:List Av) (p:Av):Bool:=seen.any fun q=>za q.1==za p.1
def zbH (p:Av):Bool:=tyL p.1 && decide (p.2≠[]) && decide (p.2.length<=256)
def pgL:List Av->List Av->Bool | _,[]=>true | seen,p :: r=>zbH p && !twL seen p && pgL (seen++[p]) r
def prL (r:List Av):Bool:=decide (1<=r.length) && decide (r.length<=8) && pgL [] r
def ckD (d:List (List Av)):Nat:=if 32<d.length then 3 else if d.all prL=true then 0 else 5
def puD (d:List (List Av)):Bs × Nat:=if ckD d≠0 then ([],ckD d) else if 4096<(nmL d).length then ([],3) else (nmL d,0)
def zv:Bs->Bs × List (Bs) × List (List (Bs))
 | []=>([],[],[])
 | c :: r =>
  if c=92 then
   match r with
   | []=>([c],[],[])
   | d :: r'=>let x:=zv r';(c :: d :: x.1,x.2)
  else let x:=zv r
   if c=43 then ([],x.1 :: x.2.1,x.2.2) else if c=44 then ([],[],(x.1 :: x.2.1) :: x.2.2) else (c :: x.1,x.2)
def zc4 (part:List (Bs)) (cur:Bs) (x:Bs × List (Bs) × List (List (Bs))):List (List (Bs)):=(part++(cur++x.1) :: x.2.1) :: x.2.2
def zbh (s:Bs):List (List (Bs)):=zc4 [] [] (zv s)
theorem zeN (r:Bs):zv (92 :: r)=((92 :: r).take 2++(zv ((92 :: r).drop 2)).1,(zv ((92 :: r).drop 2)).2):=by
 cases r with
 | nil=>simp [zv]
 | cons d r'=>rw [zv];simp
theorem zgX (r:Bs):zv (43 :: r)=([],(zv r).1 :: (zv r).2.1,(zv r).2.2):=by
 conv=>lhs;unfold zv
 cases r <;> simp
theorem zgY (r:Bs):zv (44 :: r)=([],[],((zv r).1 :: (zv r).2.1) :: (zv r).2.2):=by
 conv=>lhs;unfold zv
 cases r <;> simp
theorem zd1 (c:UInt8) (r:Bs) (h1:c≠92) (h2:c≠43) (h3:c≠44):zv (c :: r)=(c :: (zv r).1,(zv r).2):=by
 conv=>lhs;unfold zv
 cases r <;> simp [h1,h2,h3]
def rmL:Bs->Option (UInt8 × Nat)
 | []=>none
 | c :: r=>if zaO c.toNat=true then some (c,1) else match r with
  | []=>none
  | d :: _=>if hxN c.toNat<16/\hxN d.toNat<16 then some (UInt8.ofNat (16*hxN c.toNat+hxN d.toNat),2) else none
theorem zgZ (c:UInt8) (r:Bs) (h:zaO c.toNat=true):rmL (c :: r)=some (c,1):=by
 cases r <;> simp [rmL,h]
theorem zjN (c:UInt8) (h:¬ zaO c.toNat=true):rmL [c]=none:=by simp [rmL,h]
theorem zfG (c d:UInt8) (r:Bs) (h:¬ zaO c.toNat=true):rmL (c :: d :: r)=if hxN c.toNat<16/\hxN d.toNat<16 then some (UInt8.ofNat (16*hxN c.toNat+hxN d.toNat),2) else none:=by simp [rmL,h]
def rvG (first:Bool):Bs->Option (Bs)
 | []=>some []
 | c :: r =>
  if c=32 then (rvG false r).map fun v=>if v=[] then [] else 32 :: v
  else if c=92 then
   match r with
   | []=>none
   | d :: r1=>if zaO d.toNat=true then (rvG false r1).map (d :: ·) else
    match r1 with
    | []=>none
    | e :: r2=>if hxN d.toNat<16/\hxN e.toNat<16 then (rvG false r2).map (UInt8.ofNat (16*hxN d.toNat+hxN e.toNat) :: ·) else none
  else if zau c.toNat=true\/(c≠61/\mkN first false c.toNat=true) then none
  else (rvG false r).map (c :: ·)
def tlB (s:Bs):Bs:=s.dropWhile (· == 32)
def trB (s:Bs):Bs:=(s.reverse.dropWhile (· == 32)).reverse
def rvL (s:Bs):Option (Bs):=rvG true (tlB s)
def zbo (c:UInt8) (s:Bs):Bs:=s.takeWhile (· != c)
def zba (c:UInt8) (s:Bs):Bs:=(s.dropWhile (· != c)).drop 1
def rpJ (b:Bool) (T:Bs) (o:Option (Bs)):Option Av :=
 if b=true then match o with
  | none=>none
  | some v=>if v=[] then none else some (T,v)
 else none
def rpL (s:Bs):Option Av:=rpJ (tyL (tlB (trB (zbo 61 s)))) (tlB (trB (zbo 61 s))) (rvL (zba 61 s))
def zaz:List (Bs)->Option (List Av)
 | []=>some []
 | t :: r=>match rpL t with | none=>none | some p=>(zaz r).map (p :: ·)
def rpp:List (List (Bs))->Option (List (List Av))
 | []=>some []
 | t :: r=>match zaz t with | none=>none | some p=>(rpp r).map (p :: ·)
def lgD (d:List (List Av)):Bool:=decide (32<d.length) || d.any fun r=>decide (8<r.length)
def rdD (s:Bs):List (List Av) × Nat :=
 if 4096<s.length then ([],3) else if s=[] then ([],0) else
 match rpp (zbh s) with
 | none=>([],5)
 | some d=>if lgD d=true then ([],3) else if ckD d≠0 then ([],ckD d) else (d,0)
def zcG (p:Av):List Av->List Av
 | []=>[p]
 | q :: r=>if q.1<p.1 then q :: zcG p r else p :: q :: r
end Go.Proofs.YtijglbolppkefaaGreatDoor
namespace Go.Proofs.YtijglbolppkefaaGreatDoor
open Go Go.Proofs.BerK
variable {s : Bs} {N l : List (Bs)} {i : Nat}
def tv (b:Bool):Int:=if b=true then 1 else 0
def eqP (p q:Bs × Bool):Int:=if p.2=true/\q.2=true then tv (p.1==q.1) else 2
def zoI (h:Bs) (ms:List (Bs)) (t:Bs):Bool := !(h.isEmpty && ms.isEmpty && t.isEmpty) && decide (ms.length<=16) && ms.all (fun m => !m.isEmpty)
theorem zxM (l:Bs):blL (za l)=zah l:=(zxH l false).symm
theorem zoJ (x y:Bs):eqP (x,true) (y,true)=tv (x==y):=by simp [eqP]
abbrev Ty:=Bs × Int × Bool
abbrev Cl:=Bs × List (Bs) × List (Bs)
abbrev Atr:=Bs × List (Bs)
def scT (T:List Ty) (s:Bs):Option Ty:=(T.find? (fun t=>za t.1==za s)).map (fun t=>(za t.1,t.2))
def scC (C:List Cl) (s:Bs):Option Cl:=(C.find? (fun t=>za t.1==za s)).map (fun t=>(za t.1,t.2.1.map za,t.2.2.map za))
theorem zoK {α:Type} (p:α->Bool) (l:List α) (i:Nat) (hi:i<l.length) (h:∀ j (hj:j<l.length),j<i->p l[j]=false) (hp:p l[i]=true):l.find? p=some l[i]:=by
 induction l generalizing i with
 | nil=>simp at hi
 | cons a r ih =>
  cases i with
  | zero=>simp at hp;simp [List.find?,hp]
  | succ i =>
   have h0:=h 0 Sm Om
   simp at h0
   simp only [List.find?,h0,List.getElem_cons_succ] at hp ⊢
   exact ih i (by simpa using hi) (fun j hj sd=>h (j+1) (by simpa using hj) Om) hp
theorem zoL {α:Type} (p:α->Bool) (l:List α) (h:∀ j (hj:j<l.length),p l[j]=false):l.find? p=none:=by
 rw [List.find?_eq_none]
 intro x hx
 obtain ⟨j,hj,rfl⟩:=List.getElem_of_mem hx
 simp [h j hj]
theorem zxN {T:List Ty} (i:Nat) (hi:i<T.length) (h:∀ j (hj:j<T.length),j<i->(za T[j].1==za s)=false) (hp:(za T[i].1==za s)=true):scT T s=some (za T[i].1,T[i].2):=by
 unfold scT;rw [zoK _ T i hi h hp];rfl
theorem zxO {T:List Ty} (h:∀ j (hj:j<T.length),(za T[j].1==za s)=false):scT T s=none:=by
 unfold scT;rw [zoL _ T h];rfl
theorem zxP {C:List Cl} (i:Nat) (hi:i<C.length) (h:∀ j (hj:j<C.length),j<i->(za C[j].1==za s)=false) (hp:(za C[i].1==za s)=true):scC C s=some (za C[i].1,C[i].2.1.map za,C[i].2.2.map za):=by
 unfold scC;rw [zoK _ C i hi h hp];rfl
theorem zxQ {C:List Cl} (h:∀ j (hj:j<C.length),(za C[j].1==za s)=false):scC C s=none:=by
 unfold scC;rw [zoL _ C h];rfl
def inL (l:List (Bs)) (s:Bs):Bool:=l.any (· == s)
theorem zxR (i:Nat) (hi:i<l.length) (hp:(l[i]==s)=true):inL l s=true:=by
 unfold inL;rw [List.any_eq_true];exact ⟨l[i],List.getElem_mem hi,hp⟩
theorem zxS (h:∀ j (hj:j<l.length),(l[j]==s)=false):inL l s=false:=by
 unfold inL;rw [List.any_eq_false]
 intro x hx
 obtain ⟨j,hj,rfl⟩:=List.getElem_of_mem hx
 simp [h j hj]
def zcc (l:List (Bs)):Nat:=if l.all tyL=true then 0 else 13
def zeO (l:List (Bs)):Bool := !decide (l.map za).Nodup
def zbp (r:Int):Bool:=decide (1<=r) && decide (r<=5)
def zg7 (T:List Ty) (C:List Cl):Nat :=
 if zcc (T.map Prod.fst)≠0 then zcc (T.map Prod.fst) else if (T.all fun t=>zbp t.2.1)=false then 1 else if zeO (T.map Prod.fst)=true then 9 else
 if zcc (C.map Prod.fst)≠0 then zcc (C.map Prod.fst) else if zeO (C.map Prod.fst)=true then 9 else 0
def ixL (N:List (Bs)) (s:Bs):Option Nat:=N.findIdx? (· == s)
theorem zjO (N:List (Bs)) (s k:Bs):ixL (N++[s]) k=(ixL N k).or (if s==k then some N.length else none):=by
 unfold ixL
 rw [List.findIdx?_append]
 congr 1
 by_cases h:(s==k)=true
 ·simp [List.findIdx?_cons,h]
 simp [List.findIdx?_cons,h]
theorem zdg (h:ixL N s=some i):∃ hi:i<N.length,N[i]=s:=by
 unfold ixL at h
 rw [List.findIdx?_eq_some_iff_getElem] at h
 obtain ⟨hi,h1,_⟩:=h
 exact ⟨hi,by simpa using h1⟩
theorem zg8 (h:ixL N s=some i):i<N.length:=(zdg h).1
theorem zfH (h:ixL N s=none):s ∉ N:=by
 unfold ixL at h
 rw [List.findIdx?_eq_none_iff] at h
 intro hm
 simpa using h s hm
theorem zg9:(ixL N s).isSome=inL N s:=by
 rw [Bool.eq_iff_iff]
 unfold inL
 rw [List.any_eq_true]
 constructor
 ·intro h
  obtain ⟨i,hi⟩:=Option.isSome_iff_exists.1 h
  obtain ⟨hl,h1⟩:=zdg hi
  exact ⟨s,h1 ▸ List.getElem_mem hl,by simp⟩
 rintro ⟨x,hx,he⟩
 have:x=s:=by simpa using he
 subst this
 cases h:ixL N x
 ·exact absurd hx (zfH h)
 rfl
theorem zjP (h:ixL N s=some i):inL N s=true:=by rw [<- zg9,h];rfl
theorem zjQ (h:ixL N s=none):inL N s=false:=by rw [<- zg9,h];rfl
theorem zxT {α:Type} (f:α->Bs) (T:List α) (s:Bs):ixL (T.map f) s=T.findIdx? (fun t=>f t==s):=by
 unfold ixL
 rw [List.findIdx?_map]
 rfl
theorem zoM {α:Type} (f:α->Bs) (T:List α) (s:Bs):T.find? (fun t=>f t==s)=(ixL (T.map f) s).bind (fun i=>T[i]?):=by
 rw [zxT]
 exact List.find?_eq_bind_findIdx?_getElem?
def il (t:Ty):Ty:=(za t.1,t.2)
def zaU (c:Cl):Cl:=(za c.1,c.2.1.map za,c.2.2.map za)
theorem zxU (T:List Ty) (s:Bs):scT T s=(ixL ((T.map il).map (·.1)) (za s)).bind (fun i=>(T.map il)[i]?):=by
 rw [<- zoM,List.find?_map]
 unfold scT
 rfl
theorem zxV (C:List Cl) (s:Bs):scC C s=(ixL ((C.map zaU).map (·.1)) (za s)).bind (fun i=>(C.map zaU)[i]?):=by
 rw [<- zoM,List.find?_map]
 unfold scC
 rfl
def zdD (T:List Ty):Prop:=∀ t∈T,il t=t
def zdh (C:List Cl):Prop:=∀ c∈C,zaU c=c
theorem zxW (t:Ty):il (il t)=il t:=by simp [il,zjL]
theorem zxX (c:Cl):zaU (zaU c)=zaU c:=by simp [zaU,zjL,List.map_map,Function.comp_def]
theorem zxY (T:List Ty):zdD (T.map il):=by
 intro t ht
 obtain ⟨u,_,rfl⟩:=List.mem_map.1 ht
 exact zxW u
theorem zxZ (C:List Cl):zdh (C.map zaU):=by
 intro t ht
 obtain ⟨u,_,rfl⟩:=List.mem_map.1 ht
 exact zxX u
theorem zdD.id {T:List Ty} (h:zdD T):T.map il=T:=by
 rw [List.map_congr_left h];simp
theorem zdh.id {C:List Cl} (h:zdh C):C.map zaU=C:=by
 rw [List.map_congr_left h];simp
theorem zx0 {T:List Ty} (h:zdD T) (s:Bs):scT T s=(ixL (T.map (·.1)) (za s)).bind (fun i=>T[i]?):=by
 rw [zxU,h.id]
theorem zx1 {C:List Cl} (h:zdh C) (s:Bs):scC C s=(ixL (C.map (·.1)) (za s)).bind (fun i=>C[i]?):=by
 rw [zxV,h.id]
theorem zx2 {T:List Ty} {t:Ty} (h:scT T s=some t):t.1=za s:=by
 unfold scT at h
 exact zoG
theorem zoN {C:List Cl} {t:Cl} (h:scC C s=some t):t.1=za s:=by
 unfold scC at h
 exact zoG
end Go.Proofs.YtijglbolppkefaaGreatDoor
namespace Go.Proofs.MemK
open Go Go.ChangeShapes Go.WideShapes Go.RowKit Go.Proofs.BerK
theorem zx3 {H:Type} {enc:TypeId × Value->H} {P:Program} {w:World} {t e:TypeId} {a0:Option Addr} {len cap:Nat} {d:DataW H} {ps:List MemPlace} (ht:P.underlying t=some (.slice e)) (he:P.underlying e=some .string) (hc:P.cellsOf e=1)
  (h:DataW.Trod enc P w 0 (fun _=>true) true t (.slice a0 len cap) d ps):∃ l:List (Bs),l.length=len/\zi8 w (.slice a0 len cap) l/\(∀ x∈l,x.length<=maxLen)/\len<=maxLen:=by
 obtain ⟨fuel,hf⟩:=h
 rcases open_strings ht he hc hf with ⟨bQ,_⟩ | ⟨a,len',cap',ss,bQ,_,hl,hm,hz,_,bH,hws⟩
 ·simp [Value.cells] at bQ
  obtain ⟨rfl,rfl,rfl⟩:=bQ
  exact ⟨[],rfl,.inl ⟨rfl,none,0,rfl⟩,by simp,by decide⟩
 simp [Value.cells] at bQ
 obtain ⟨rfl,rfl,rfl⟩:=bQ
 simp only [if_true] at hz
 have aF:((ss.take len).map fun s=>s.data.toList).length=len:=by simp;omega
 refine ⟨(ss.take len).map fun s=>s.data.toList,aF,?_,?_,by omega⟩
 ·by_cases h0:len=0
  ·subst h0
   exact .inl ⟨by simp,_,_,rfl⟩
  obtain ⟨b,off,spot⟩:=a
  have jw:spot=none:=by simpa [Addr.add] using World.cell?_spot (bH 0 Om)
  subst jw
  refine .inr ⟨by omega,b,off,cap,by rw [aF],World.block_lt_of_cell? w _ (bH 0 Om),fun i hi=>?_⟩
  rw [aF] at hi
  rw [<- add_plain,bH i Om]
  have jd:i<ss.length:=by omega
  simp [List.getD,jd]
 intro x hx
 obtain ⟨s,hs,rfl⟩:=List.mem_map.1 hx
 exact hws s (List.mem_of_mem_take hs)
end Go.Proofs.MemK
