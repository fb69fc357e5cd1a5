import Derived.Test.YtofcnebekmjdoaaGreatDoorKam
set_option maxHeartbeats 4000000
set_option maxRecDepth 100000
namespace Go.Proofs.YtofcnebekmjdoaaGreatDoor.Dy
open Go.RowKit Go.Proofs.YtofcnebekmjdoaaGreatDoor.Gn
theorem digs_one {n:Int}(h:0≤n) (h2:n<256):digs n 1=[n]:=by simp[digs,dig];omega
theorem digs_enc {r:Rc}(h:¬noKind r∧¬far r):digs r.sh 1++(digs r.au 1++(digs r.k 1++digs r.m 3))=enc r:=by
 have h1:=h.1
 have h2:=h.2
 unfold noKind at h1
 unfold far at h2
 rw[digs_one (by omega) (by omega),digs_one (by omega) (by omega),digs_one (by omega) (by omega)]
 unfold enc
 simp[digs,dig];omega
theorem digs_tot {n:Int}(h:0≤n) (h2:n≤100000000):digs n 4=tot4 n:=by
 unfold tot4;simp[digs,dig];omega
theorem write1 (B:List Int) (n:Int) (base:Nat) (v:Value) (w:World) (h:Row kB 5 w base v B) (hB:B.length≤1000000) (hbase:base≤w.heap.size):
  Calls Tryz.prog 164 #[v,.int .i64 n,.int .i64 1] w (AnswersW w base v (B ++digs n 1)):=write_any B n 1 base v w h (by omega) hB hbase
theorem write3 (B:List Int) (n:Int) (base:Nat) (v:Value) (w:World) (h:Row kB 5 w base v B) (hB:B.length≤1000000) (hbase:base≤w.heap.size):
  Calls Tryz.prog 164 #[v,.int .i64 n,.int .i64 3] w (AnswersW w base v (B ++digs n 3)):=write_any B n 3 base v w h (by omega) hB hbase
theorem write4 (B:List Int) (n:Int) (base:Nat) (v:Value) (w:World) (h:Row kB 5 w base v B) (hB:B.length≤1000000) (hbase:base≤w.heap.size):
  Calls Tryz.prog 164 #[v,.int .i64 n,.int .i64 4] w (AnswersW w base v (B ++digs n 4)):=write_any B n 4 base v w h (by omega) hB hbase
structure Byw (w W:World) (a:Option Addr) (cap:Nat) (S:List Rc) (u:Value) (C:List Int):Prop where
 bel:Below w.heap.size w W
 res:W.heap[w.heap.size]?=some (.cells #[.int .i64 0,.int .i64 0] 47)
 lies:Lies kR W a cap S
 lt:∀ad,a=some ad→ad.block<W.heap.size
 row:Row kB 5 W (w.heap.size+1) u C
 ne:∀ad,a=some ad→u.ownBlock≠some ad.block
theorem Byw.big {w W:World}{a:Option Addr}{cap:Nat}{S:List Rc}{u:Value}{C:List Int}(h:Byw w W a cap S u C):w.heap.size+1≤W.heap.size:=lt_of_block h.res
theorem Byw.on {w W W':World}{a:Option Addr}{cap:Nat}{S:List Rc}{u:Value}{C:List Int}(h:Byw w W a cap S u C) (hb:Below W.heap.size W W'):Byw w W' a cap S u C:=
 ⟨h.bel.trans (hb.mono h.bel.size),(hb.block _ (by have :=h.big;omega)).trans h.res,h.lies.below hb,fun ad ha=>Nat.lt_of_lt_of_le (h.lt ad ha) hb.size,h.row.below hb,h.ne⟩
theorem Byw.grow {w W W':World} {a:Option Addr} {cap:Nat} {S:List Rc} {u u':Value} {C C':List Int} (h:Byw w W a cap S u C) (hr:Row kB 5 W' (w.heap.size+1) u' C') (hg:W.grownBy W' u.ownBlock) (ha:∀k,u'.ownBlock=some k→u.ownBlock=some k∨W.heap.size≤k):Byw w W' a cap S u' C':=by
 have hbig:=h.big
 refine ⟨below_grown h.bel hg h.row (by omega) (by omega),?_,h.lies.grown hg h.ne,fun ad had=>Nat.lt_of_lt_of_le (h.lt ad had) hg.size,hr,fun ad had hk=>?_⟩
 ·refine (hg.block _ (by omega) fun hk=>?_).trans h.res
  have:= (h.row.block_lt _ hk.symm).1
  omega
 ·rcases ha _ hk with h1|h1
  ·exact h.ne ad had h1
  ·have:= h.lt ad had
   omega
structure Byx (w W:World) (a:Option Addr) (cap:Nat) (S:List Rc) (u:Value) (C:List Int) (Z:Nat) (r:Rc):Prop extends Byw w W a cap S u C where
 box:W.heap[Z]?=some (rob r)
 nez:u.ownBlock≠some Z
theorem Byx.grow {w W W':World}{a:Option Addr}{cap:Nat}{S:List Rc}{u u':Value}{C C':List Int}{Z:Nat}{r:Rc}(h:Byx w W a cap S u C Z r) (hr:Row kB 5 W' (w.heap.size +1) u' C') (hg:W.grownBy W' u.ownBlock) (ha:∀k,u'.ownBlock=some k→u.ownBlock=some k∨W.heap.size≤k):Byx w W' a cap S u' C' Z r:=by
 have hz:=lt_of_block h.box
 refine ⟨h.toByw.grow hr hg ha,(hg.block _ hz fun hk=>h.nez hk.symm).trans h.box,fun hk=>?_⟩
 rcases ha _ hk with h1|h1
 ·exact h.nez h1
 ·omega
theorem Byw.take{w W:World}{a:Option Addr}{cap:Nat}{S:List Rc}{u:Value}{C:List Int}(h:Byw w W a cap S u C) (r:Rc):Byx w (W.alloc (rob r)) a cap S u C W.heap.size r:=
 ⟨h.on (below_alloc _ _),heap_alloc_at _ _ _ rfl,fun hk=>by have:= (h.row.block_lt _ hk).2;omega⟩
theorem rob_cells{W:World}{b:Nat}{t:Rc}(hb:W.heap[b]?=some (rob t)):
  W.cell? ⟨b,0,none⟩=some (.int .i64 t.sh)∧W.cell? ⟨b,1,none⟩=some (.int .i64 t.au)∧W.cell? ⟨b,2,none⟩=some (.int .i64 t.k)∧W.cell? ⟨b,3,none⟩=some (.int .i64 t.m):=by
 unfold rob at hb
 refine ⟨?_,?_,?_,?_⟩<;>simp[World.cell?,hb]
def AnswersB (w:World) (r:List Int×(Int×Int)) (e:Ending) (w':World):Prop:=∃v',e=.returned (.tuple #[v',fv r.2])∧Row kB 5 w' w.heap.size v' r.1∧Below w.heap.size w w'
theorem bytes_any (L:List Rc) (v:Value) (w:World) (h:At kR w v L):Calls Tryz.prog 140 #[v] w (AnswersB w (bytesR L)):=by
 have b0:Below w.heap.size w (w.alloc (.cells #[.int .i64 0,.int .i64 0] 47)):=below_alloc _ _
 have hR0:(w.alloc (.cells #[.int .i64 0,.int .i64 0] 47)).heap[w.heap.size]?=some (.cells #[.int .i64 0,.int .i64 0] 47):=heap_alloc_at _ _ _ rfl
 have hz0:w.heap.size<(w.alloc (.cells #[.int .i64 0,.int .i64 0] 47)).heap.size:=by simp
 have hh:=h
 obtain ⟨a0,c0,rfl,hl⟩:=h
 by_cases hw:(wrongL L).1=0
 case neg=>
  have hE:=hid (bytes_bad hw)
  have hw':((wrongL L).1 !=0)=true:=by simpa using hw
  have hWr:∀X:World,Below w.heap.size w X→Calls Tryz.prog 31 #[.slice a0 L.length c0] X fun e w'=>e=.returned (.agg #[.int .i64 (wrongL L).1,.int .i64 (wrongL L).2])∧Below X.heap.size X w':=fun X hX=>wrong_any L _ X (hh.below hX)
  have hE2:Hid (bytesR L=([],((wrongL L).1,(wrongL L).2))):=by rw[hE.out];exact hid rfl
  clear hw hE
  generalize (wrongL L).1=e1 at*
  generalize (wrongL L).2=e2 at*
  go_enter Tryz.func140,Tryz.ntmps140
  go_upto_region 1 with fail
  generalize w.alloc (.cells #[.int .i64 0,.int .i64 0] 47)=W0 at*
  go_upto_region 3 with (go_at_call 31;refine (hWr _ b0).mono ?_;rintro e w1 ⟨rfl,hb1⟩)
  have hR1:=(hb1.block _ hz0).trans hR0
  have hz1:w.heap.size<w1.heap.size:=Nat.lt_of_lt_of_le hz0 hb1.size
  have hbw:Below w.heap.size w (w1.alloc (.cells #[.int .i64 e1,.int .i64 e2] 47)):=bel_alloc (b0.trans (hb1.mono b0.size)) _
  have hR2:(w1.alloc (.cells #[.int .i64 e1,.int .i64 e2] 47)).heap[w.heap.size]?=some (.cells #[.int .i64 0,.int .i64 0] 47):=(heap_alloc_old _ _ hz1).trans hR1
  have C0:(w1.alloc (.cells #[.int .i64 e1,.int .i64 e2] 47)).cell? ⟨w1.heap.size,0,none⟩=some (.int .i64 e1):=by simp
  have C1:(w1.alloc (.cells #[.int .i64 e1,.int .i64 e2] 47)).cell? ⟨w1.heap.size,1,none⟩=some (.int .i64 e2):=by simp
  obtain ⟨r0,r1,f0,f1⟩:=res_cells hR2
  have hne:w.heap.size≠w1.heap.size:=by omega
  have hne':w1.heap.size≠w.heap.size:=by omega
  generalize w1.alloc (.cells #[.int .i64 e1,.int .i64 e2] 47)=W2 at*
  generalize w1.heap.size=Z at*
  go_region
  all_goals
   go_wp2_with fail
   refine bodyPost_ret (v:=.tuple #[.slice none 0 0,.agg #[.int .i64 e1,.int .i64 e2]]) (by simp[results,Tryz.results140,go_sem,r0,r1];try rfl) rfl ?_
   rw[hE2.out]
   refine ⟨_,rfl,.nil,?_⟩
   repeat (first|exact hbw|refine Below.drew ?_|refine Below.setCell ?_ (by simp) _)
 case pos=>
  have hR:=wrong_ok.1 hw
  have hE:=hid (bytes_ok hw)
  have hwz:=wrong_zero hw
  have hWr:∀X:World,Below w.heap.size w X→Calls Tryz.prog 31 #[.slice a0 L.length c0] X fun e w'=>e=.returned (.agg #[.int .i64 0,.int .i64 0])∧Below X.heap.size X w':=fun X hX=>by
   have:= wrong_any L _ X (hh.below hX);rw[hwz] at this;exact this
  have hfew:=hR.few
  have hlen0:Hid (digs (L.length :Int) 1=[(L.length :Int)]):=hid (digs_one (by omega) (by omega))
  have HR:=hid hR
  have hfew':L.length*32≤140737488355328:=by omega
  clear hw hwz hR
  go_enter Tryz.func140,Tryz.ntmps140
  go_upto_region 1 with fail
  generalize w.alloc (.cells #[.int .i64 0,.int .i64 0] 47)=W0 at*
  go_upto_region 4 with (go_at_call 31;refine (hWr _ b0).mono ?_;rintro e w1 ⟨rfl,hb1⟩)
  have hR1:=(hb1.block _ hz0).trans hR0
  have hz1:w.heap.size<w1.heap.size:=Nat.lt_of_lt_of_le hz0 hb1.size
  have hbw:Below w.heap.size w (w1.alloc (.cells #[.int .i64 0,.int .i64 0] 47)):=bel_alloc (b0.trans (hb1.mono b0.size)) _
  have hR2:(w1.alloc (.cells #[.int .i64 0,.int .i64 0] 47)).heap[w.heap.size]?=some (.cells #[.int .i64 0,.int .i64 0] 47):=(heap_alloc_old _ _ hz1).trans hR1
  generalize w1.alloc (.cells #[.int .i64 0,.int .i64 0] 47)=W2 at*
  have hz2:=lt_of_block hR2
  have hzb:w.heap.size+1≤W2.heap.size:=hz2
  clear hb1 hR1 hz1 hR0 hz0 b0
  go_upto_region 5 with (go_at_call 164;refine (write1 [] _ (w.heap.size +1) _ _ .nil (by simp) hzb).mono ?_;rintro e w3 ⟨v3,rfl,hr3,hg3,ha3⟩)
  have hb3:Below W2.heap.size W2 w3:=below_grown (L:=[]) (Below.refl _ _) hg3 (.nil:Row kB 5 W2 W2.heap.size (.slice none 0 0) []) (Nat.le_refl _) (Nat.le_refl _)
  have hbw3:Below w.heap.size w w3:=hbw.trans (hb3.mono (Nat.le_of_lt hz2))
  have hR3:=(hb3.block _ hz2).trans hR2
  rw[List.nil_append,hlen0.out] at hr3
  go_wp2_with (go_at_call 35;refine (sorted_any L _ _ (hh.below hbw3) hfew').mono ?_;rintro e w4 ⟨a4,c4,rfl,hl4,hp4,hlt4,hb4⟩)
  have B0:Byw w w4 a4 c4 (sortR L) v3 [(L.length:Int)]:=⟨hbw3.trans (hb4.mono (by have :=hb3.size;omega)),(hb4.block _ (lt_of_block hR3)).trans hR3,hl4,hlt4,hr3.below hb4,fun ad had hk=>by
   have h1:=hp4 ad had
   have h2:=(hr3.block_lt _ hk).2
   omega⟩
  clear hl4 hp4 hlt4 hb4 hr3 hg3 ha3 hb3 hbw3 hR3 hR2 hbw hz2 hzb hlen0
  have hsl:(sortR L).length≤100:=by rw[sort_length];exact hfew
  have hSr:=hid HR.out.sort
  obtain ⟨S,hS⟩:∃S,Hid (sortR L=S):=⟨_,rfl⟩
  rw[hS.out] at B0 hsl hSr⊢
  go_loopw[20,5](fun i u wr=>∃k:Nat,k≤S.length∧i=.int .i64 k∧Byw w wr a4 c4 S u ((L.length:Int)::(S.take k).flatMap enc)) (fun i _ _=>S.length-(intOf i).toNat)
  case atStart=>exact ⟨0,Nat.zero_le _,rfl,by simpa using B0⟩
  case round=>
   clear B0
   obtain ⟨k,hk,rfl,B0⟩:=hrel
   have hCl:Hid (((L.length:Int)::(S.take k).flatMap enc).length=1+6*k):=by rw[List.length_cons,flat_length,List.length_take];exact hid (by omega)
   by_cases hlt:k<S.length
   ·have hlt':(k :Int)<S.length:=by omega
    obtain ⟨b,off,rfl,hbl,e1,e2,e3,e4⟩:=rc_cells B0.lies hlt
    have hgood:=hSr.out.each _ (getD_mem hlt)
    have hnew:Hid (((L.length:Int)::(S.take (k+1)).flatMap enc)=((L.length :Int)::(S.take k).flatMap enc)++enc (S.getD k zR)):=by rw[take_at hlt];exact hid (by simp)
    generalize (L.length :Int)::(S.take k).flatMap enc=C at*
    generalize S.getD k zR=r at*
    have henc:=hid (digs_enc hgood)
    have X0:=B0.take r
    unfold rob at X0
    go_upto_region 8 with fail
    generalize wr.alloc (.cells #[.int .i64 r.sh,.int .i64 r.au,.int .i64 r.k,.int .i64 r.m] 79)=W1 at*
    generalize wr.heap.size=Z at*
    clear e1 e2 e3 e4 B0 hgood
    obtain ⟨g0,g1,g2,g3⟩:=rob_cells X0.box
    have hq:=X0.big
    go_upto_region 9 with (go_at_call 164;refine (write1 C _ (w.heap.size+1) _ _ X0.row (by have:= hCl.out;omega) hq).mono ?_;rintro e w5 ⟨v5,rfl,hr5,hg5,ha5⟩)
    have X1:=X0.grow hr5 hg5 ha5
    clear X0 hr5 hg5 ha5 g0 g1 g2 g3 hq
    obtain ⟨g0,g1,g2,g3⟩:=rob_cells X1.box
    have hq:=X1.big
    go_upto_region 10 with (go_at_call 164;refine (write1 _ _ (w.heap.size +1) _ _ X1.row (by have:= hCl.out;rw[List.length_append,digs_length];omega) hq).mono ?_;rintro e w6 ⟨v6,rfl,hr6,hg6,ha6⟩)
    have X2:=X1.grow hr6 hg6 ha6
    clear X1 hr6 hg6 ha6 g0 g1 g2 g3 hq
    obtain ⟨g0,g1,g2,g3⟩:=rob_cells X2.box
    have hq:=X2.big
    go_upto_region 11 with (go_at_call 164;refine (write1 _ _ (w.heap.size+1) _ _ X2.row (by have:= hCl.out;rw[List.length_append,List.length_append,digs_length,digs_length];omega) hq).mono ?_;rintro e w7 ⟨v7,rfl,hr7,hg7,ha7⟩)
    have X3:=X2.grow hr7 hg7 ha7
    clear X2 hr7 hg7 ha7 g0 g1 g2 g3 hq
    obtain ⟨g0,g1,g2,g3⟩:=rob_cells X3.box
    have hq:=X3.big
    go_wp2_with (go_at_call 164;refine (write3 _ _ (w.heap.size +1) _ _ X3.row (by have :=hCl.out;rw[List.length_append,List.length_append,List.length_append,digs_length,digs_length,digs_length];omega) hq).mono ?_;rintro e w8 ⟨v8,rfl,hr8,hg8,ha8⟩)
    have X4:=X3.grow hr8 hg8 ha8
    have hE4:Hid (C ++digs r.sh 1++digs r.au 1++digs r.k 1++digs r.m 3=(L.length :Int)::(S.take (k +1)).flatMap enc):=by rw[hnew.out,←henc.out];exact hid (by simp)
    go_roundw
    case rel=>exact ⟨k+1,by omega,by go_num,by rw[←hE4.out];exact X4.toByw⟩
    case measure=>simp[intOf];omega
   ·have hke:k=S.length:=by omega
    subst hke
    rw[List.take_length] at B0 hCl
    have htot:=total_small HR.out
    have hfin:Hid (((L.length:Int)::S.flatMap enc)++digs (total L) 4=fileB L):=by
     rw[digs_tot htot.1 htot.2,←hS.out];exact hid rfl
    have hTo:∀X:World,Below w.heap.size w X→Calls Tryz.prog 70 #[.slice a0 L.length c0] X fun e w'=>e=.returned (.int .i64 (total L))∧Below X.heap.size X w':=fun X hX=>total_any L _ X (hh.below hX) HR.out
    generalize total L=tt at*
    generalize (L.length :Int)::S.flatMap enc=C at*
    have hbl:=B0.bel
    go_wp2_with (first
     |(go_at_call 70;refine (hTo _ hbl).mono ?_;rintro e w5 ⟨rfl,hb5⟩;have B1:=B0.on hb5;have hq:=B1.big)
     |(go_at_call 164;refine (write4 _ _ (w.heap.size +1) _ _ B1.row (by have:= hCl.out;omega) hq).mono ?_;rintro e w6 ⟨v6,rfl,hr6,hg6,ha6⟩;have B2:=B1.grow hr6 hg6 ha6;obtain ⟨r0,r1,f0,f1⟩:=res_cells B2.res))
    refine bodyPost_ret (v:=.tuple #[v6,.agg #[.int .i64 0,.int .i64 0]]) (by simp[results,Tryz.results140,go_sem,r0,r1];try rfl) rfl ?_
    rw[hE.out]
    refine ⟨v6,rfl,?_,(B2.bel.setCell (Nat.le_refl _) _).setCell (Nat.le_refl _) _⟩
    have hr7:=B2.row
    rw[hfin.out] at hr7
    refine (hr7.keep (by simp) fun k hk _=>?_).mono (by omega)
    have:= (hr7.block_lt k hk).1
    rw[heap_setCell_other _ ⟨w.heap.size,1,none⟩ _ _ (by simp;omega),heap_setCell_other _ ⟨w.heap.size,0,none⟩ _ _ (by simp;omega)]
end Go.Proofs.YtofcnebekmjdoaaGreatDoor.Dy
