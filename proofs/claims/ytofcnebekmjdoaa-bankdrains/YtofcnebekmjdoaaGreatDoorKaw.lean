import Derived.Deep.CutRange
import Derived.Deep.RegionLaw
import Derived.Deep.RegionWith
import Derived.Laws.AppendOwnNone
import Derived.Test.YtofcnebekmjdoaaGreatDoorKav
set_option maxHeartbeats 4000000
set_option maxRecDepth 100000
namespace Go.Proofs.YtofcnebekmjdoaaGreatDoor
open Go.RowKit
def Answers (w:World) (r:List (Int×Int)×Int) (e:Ending) (w':World):Prop:=
 ∃v,e=.returned (.tuple #[v,.int .i64 r.2])∧w'.ownsRow w.heap.size 151 2 v r.1.length (flat r.1)∧Below w.heap.size w w'
theorem Answers.read{w w':World}{r:List (Int×Int)×Int}{e:Ending}(h:Answers w r e w'):∃a cap,e=.returned (.tuple #[.slice a r.1.length cap,.int .i64 r.2])∧Ents w' a r.1∧Below w.heap.size w w':=by
 obtain ⟨v,he,ho,hb⟩:=h
 obtain ⟨a,cap,rfl,-,-,hE⟩:=ents_of_owns ho
 exact ⟨a,cap,he,hE,hb⟩
theorem add_bad (p:Pa) (a:Option Addr) (cap:Nat) (L:List (Int ×Int)) (x:Int×Int) (w:World) (hL:Ents w a L) (hw:wrongAdd p L x≠0):
  Calls Tryz.prog 173 #[pv p,.slice a L.length cap,uv x] w (Answers w (addU p L x)):=by
 have HP:=hid (addU_bad hw)
 have hne:(wrongAdd p L x !=0)=true:=by simpa using hw
 have hL0:∀o o',Ents ((w.alloc o).alloc o') a L:=fun o o'=>hL.below (((Below.refl _ _).alloc (Nat.le_refl _) _).alloc (by simp) _)
 clear hw
 unfold pv uv
 go_enter Tryz.func173,Tryz.ntmps173
 go_wp2_with fail
 refine (wrongAdd_any p a cap L x _ (hL0 _ _)).mono ?_
 rintro e w1 ⟨rfl,hb1⟩
 obtain ⟨bb,-,-,-⟩:=boxes hb1
 generalize wrongAdd p L x=r at*
 go_wp2
 go_ret2
 unfold Answers
 rw[HP.out]
 exact ⟨.slice none 0 0,rfl,World.ownsRow_nil _ _ _ _,bb⟩
theorem step_append_own{P:Program}{ops:Array Oper}{o:Oper}{a:Act}{w:World}{K:Act→World→Prop}{Q:Exit→Act→World→Prop}{E:Prop}
  (hg:o.guard=none) (s x:Operand) (t:TypeId) (hop:o.op=Op.call {callee:=Callee.builtin Builtin.append,args:=#[s,x],argTypes:=#[t,t]})
  (base:Nat) (e:TypeId) (i:TypeInfo) (z:Value) (size bytes:Nat) (ht:P.underlying t=some (.slice e)) (hi:P.info? e=some i) (hz:i.zero=some z)
  (hsize:i.size=size) (hby:i.bytes=bytes) (hzs:z.cells.size=size) (hsz:0<size)
  (v:Value) (n:Nat) (xs:List Value) (hs:a.eval s=v) (hown:w.ownsRow base e size v n xs)
  (ad:Addr) (m c:Nat) (news:List Value) (hx:a.eval x=.slice (some ad) m c) (hl:news.length=m*size) (hnews:∀j u,news[j]?=some u→w.cell? (ad.add j)=some u) (h1:∀u∈news,u.oneCell'=true)
  (h63:n+m≤maxLen) (hbytes:(n +m)*bytes≤140737488355328) (hbase:base≤w.heap.size)
  (hK:∀v' w',w'.ownsRow base e size v' (n+m) (xs ++news)→w.grownBy w' v.ownBlock→K (a.put o.dst v') w'):
  if Region.wanted o (yielded ops a.tmps)=true then Oper.wp P o a w K Q else E:=by
 rw[if_pos (show Region.wanted o (yielded ops a.tmps)=true by simp[Region.wanted,hg])]
 exact wp_append_own w s x t hop base e i z size bytes ht hi hz hsize hby hzs hsz v n xs hs hown ad m c news hx hl hnews h1 h63 hbytes hbase fun v' w' h2 h3 _=>hK v' w' h2 h3
theorem two_cells {w:World}{b:Nat}{x:Int×Int}(h:w.heap[b]?=some (.cells #[.int .i64 x.1,.int .i64 x.2] 151)):
  ∀j u,[Value.int .i64 x.1,Value.int .i64 x.2][j]?=some u→w.cell? ((⟨b,0,none⟩:Addr).add j)=some u:=by
 intro j u hj
 match j,hj with
 |0,hj=>simp at hj;subst hj;simp[Addr.add,World.cell?,h]
 |1,hj=>simp at hj;subst hj;simp[Addr.add,World.cell?,h]
 |j+2,hj=>simp at hj
theorem own_out {w:World}{base base':Nat}{v:Value}{p:Pa}{L:List (Int ×Int)}{x:Int×Int}
  (h:w.ownsRow base 151 2 v ((recent (x.1-p.t) L).length+1) (flat (recent (x.1-p.t) L)++[Value.int .i64 x.1,Value.int .i64 x.2])) (hb:base'≤base):w.ownsRow base' 151 2 v (out p L x).length (flat (out p L x)):=by
 unfold out
 rw[flat_snoc,List.length_append]
 exact ownsRow_mono h hb
theorem below_drew_up {B:Nat}{w w2:World}(hB:B≤w.heap.size) (hb:Below w.drew.heap.size w.drew w2):Below B w w2:=((Below.refl B w).drew).trans (hb.mono hB)
theorem below_drew_alloc {B:Nat} {w w2:World} {o:Obj} (hB:B≤w.heap.size) (hb:Below (w.alloc o).drew.heap.size (w.alloc o).drew w2):Below B w w2:=by
 have hs:(w.alloc o).drew.heap.size=w.heap.size+1:=by show (w.heap.push o).size=_;simp
 exact (((Below.refl B w).alloc hB o).drew).trans (hb.mono (by omega))
theorem block_drew_alloc {w w2:World}{o:Obj} (hb:Below (w.alloc o).drew.heap.size (w.alloc o).drew w2):w2.heap[w.heap.size]?=some o:=by
 rw [hb.block _ (by show _<(w.heap.push o).size;simp)]
 exact heap_alloc_at w o _ rfl
theorem addU_pace {p:Pa}{L:List (Int ×Int)}{x:Int×Int}(h:wrongAdd p L x=0) (h2:p.c<(out p L x).length∨p.s<tot (out p L x)):addU p L x=([],11):=by
 unfold addU;rw[if_neg (by simpa using h),if_pos h2]
theorem addU_ok {p:Pa}{L:List (Int×Int)}{x:Int×Int}(h:wrongAdd p L x=0) (h2:¬(p.c<(out p L x).length∨p.s<tot (out p L x))):addU p L x=(out p L x,0):=by
 unfold addU;rw[if_neg (by simpa using h),if_neg h2]
def Within (p:Pa) (O:List (Int ×Int)) (k:Nat):Prop:=0<k→(k :Int)≤p.c∧tot (O.take k)≤p.s
theorem within_over {p:Pa}{O:List (Int×Int)}(hall:∀u∈O,inU u=true){k:Nat}(hk:k<O.length) (h:¬((k:Int)+1≤p.c∧tot (O.take (k +1))≤p.s)):p.c<O.length∨p.s<tot O:=by
 have:= tot_take_le hall (k +1)
 omega
theorem add_good (p:Pa) (a:Option Addr) (cap:Nat) (L:List (Int ×Int)) (x:Int×Int) (w:World) (hL:Ents w a L) (hw:wrongAdd p L x=0):
    Calls Tryz.prog 173 #[pv p,.slice a L.length cap,uv x] w (Answers w (addU p L x)):=by
  have hne:(wrongAdd p L x !=0)=false:=by simpa using hw
  have hL0:∀o o',Ents ((w.alloc o).alloc o') a L:=fun o o'=>hL.below (((Below.refl _ _).alloc (Nat.le_refl _) _).alloc (by simp) _)
  have HF:=hid (wrongAdd_ok hw)
  have H1:=hid (addU_pace hw)
  have H2:=hid (addU_ok hw)
  clear hw
  unfold pv uv
  go_enter Tryz.func173,Tryz.ntmps173
  go_wp2_with fail
  refine (wrongAdd_any p a cap L x _ (hL0 _ _)).mono ?_
  rintro e w1 ⟨rfl,hb1⟩
  obtain ⟨bb,hs1,hp1,hx1⟩:=boxes hb1
  generalize wrongAdd p L x=r at*
  have hL1:=hL.below bb
  have h1:=HF.out.pace.t1
  have h2:=HF.out.pace.t2
  obtain ⟨h3,h4,-,-⟩:=inU_true.1 HF.out.inx
  have hr:L.length*16≤140737488351232:=by have :=HF.out.few;omega
  have hle:=recent_le (x.1-p.t) L
  have hs1':w.heap.size+2≤w1.heap.size:=hs1
  obtain ⟨i0,hi,hz0,hz1,hz2⟩:=info_parts infoUse
  clear hb1 hL0 hL
  go_upto_region 4 with fail
  go_cut[9] from 20 to 27 (fun v wc=>wc.ownsRow (w.heap.size +2) 151 2 v (out p L x).length (flat (out p L x))∧Below (w.heap.size +2) w1 wc)
  case first=>
    obtain ⟨P0,P1,P2⟩:=pace_cells hp1
    obtain ⟨X0,X1⟩:=use_cells hx1
    have hw1:w.heap.size<w1.heap.size:=by omega
    have Q0:∀o,(w1.alloc o).cell? ⟨w.heap.size,0,none⟩=some (.int .i64 p.t):=fun o=>(World.cell?_alloc_past _ _ _ hw1).trans P0
    have Q1:∀o,(w1.alloc o).cell? ⟨w.heap.size,1,none⟩=some (.int .i64 p.c):=fun o=>(World.cell?_alloc_past _ _ _ hw1).trans P1
    have Q2:∀o,(w1.alloc o).cell? ⟨w.heap.size,2,none⟩=some (.int .i64 p.s):=fun o=>(World.cell?_alloc_past _ _ _ hw1).trans P2
    have Z0:∀o,(w1.alloc o).cell? ⟨w.heap.size+1,0,none⟩=some (.int .i64 x.1):=fun o=>(World.cell?_alloc_past _ _ _ hs1).trans X0
    have Z1:∀o,(w1.alloc o).cell? ⟨w.heap.size+1,1,none⟩=some (.int .i64 x.2):=fun o=>(World.cell?_alloc_past _ _ _ hs1).trans X1
    go_region_law (first
      | (rw[if_pos (by simp[Region.wanted])];go_simp;go_at_call 182;refine (recent_any p a cap L x.1 _ ?_ h1 h2 h3 h4 hr).mono ?_;exact hL1.below ((Below.refl _ _).drew)
         rintro e w2 ⟨v,rfl,hown,hb⟩
         have hb2:=below_drew_up (Nat.le_refl _) hb
         have hx2:=(hb2.block _ hs1).trans hx1
         obtain ⟨Y0,Y1⟩:=use_cells hx2
         have hs2:=hb2.size
         clear hb)
      | (rw[if_pos (by simp[Region.wanted])];go_simp;go_at_call 182;refine (recent_any p a cap L x.1 _ ?_ h1 h2 h3 h4 hr).mono ?_;exact hL1.below (((Below.refl _ _).alloc (Nat.le_refl _) _).drew)
         rintro e w2 ⟨v,rfl,hown,hb⟩
         have hb2:=below_drew_alloc (Nat.le_refl _) hb
         have hn2:=block_drew_alloc hb
         have hs2:=hb2.size
         have hown:=ownsRow_mono hown (base':=w1.heap.size) (by show _≤(w1.heap.push _).size;simp)
         clear hb)
      | (refine step_append_own rfl (.tmp 24) (.tmp 26) 59 rfl w1.heap.size 151 i0 (.agg #[.int .i64 0,.int .i64 0]) 2 16 Tryz.underlying59 hi hz0 hz1 hz2 rfl (by decide) v _ _ (by simp[Act.eval]) (hown.alloc _) ⟨w2.heap.size,0,none⟩ 1 1 [.int .i64 x.1,.int .i64 x.2] (by simp[Act.eval]) rfl (two_cells (heap_alloc_at _ _ _ rfl)) (by intro u hu;simp at hu;rcases hu with rfl|rfl<;>rfl) (by unfold maxLen;omega) (by omega) (by simp;omega) ?_
         intro v' w3 hown' hgrow
         have hb3:Below w1.heap.size w1 w3:=(hb2.alloc hb2.size _).grown hgrow (by simp;omega) (ownBlock_ge hown)
         clear hgrow hown hb2)
      | (refine step_append_own rfl (.tmp 24) (.tmp 26) 59 rfl w1.heap.size 151 i0 (.agg #[.int .i64 0,.int .i64 0]) 2 16 Tryz.underlying59 hi hz0 hz1 hz2 rfl (by decide) v _ _ (by simp[Act.eval]) hown ⟨w1.heap.size,0,none⟩ 1 1 [.int .i64 x.1,.int .i64 x.2] (by simp[Act.eval]) rfl (two_cells hn2) (by intro u hu;simp at hu;rcases hu with rfl|rfl<;>rfl) (by unfold maxLen;omega) (by omega) hs2 ?_
         intro v' w3 hown' hgrow
         have hb3:Below w1.heap.size w1 w3:=hb2.grown hgrow hs2 (ownBlock_ge hown)
         clear hgrow hown hb2))
    all_goals (go_wp2_with fail;go_meet;exact ⟨own_out hown' hs1',hb3.mono hs1'⟩)
  case rest=>
    obtain ⟨hown,hb⟩:=hcut
    obtain ⟨a5,cap5,rfl,hcl,hcm,hE5⟩:=ents_of_owns hown
    have HO:=hid hown
    obtain ⟨P0,P1,P2⟩:=pace_cells ((hb.block _ (by omega)).trans hp1)
    have hsc:=hb.size
    have bbc:Below w.heap.size w wc:=bb.trans (hb.mono (by omega))
    have hall:=out_all HF.out
    have hfew:=out_few HF.out
    have hpos:0<(out p L x).length:=by simp[out]
    generalize addU p L x=R at*
    generalize out p L x=O at*
    clear hown hb hle hr h1 h2 h3 h4 HF hL1 hp1 hx1 bb hi hz0 hz1 hz2
    go_wp2_with fail
    refine (meter_any p _).mono ?_
    rintro e w3 ⟨rfl,hM,hb3⟩
    obtain ⟨hm,hE⟩:=hE5
    unfold maxLen at hm
    have hs3:=hM.lt
    clear P0 P1 P2
    have HA:=hid hall
    clear hall
    go_wp2
    go_loopw[32](fun i wr=>∃k:Nat,k≤O.length∧i=.int .i64 k∧Meter wr wc.heap.size p k (tot (O.take k))∧Below wc.heap.size w3 wr∧Hid (Within p O k)) (fun i _=>O.length-(intOf i).toNat)
    case atStart=>exact ⟨0,Nat.zero_le _,rfl,by simpa[tot] using hM,Below.refl _ _,fun h=>absurd h (Nat.lt_irrefl _)⟩
    case round=>
      obtain ⟨k,hk,rfl,hMk,hbk,hW⟩:=hrel
      have hsk:=hbk.size
      have hlk:=hMk.lt
      by_cases hlt:k<O.length
      · rcases hE with rfl|⟨b,off,rfl,hbl,hcell⟩
        · simp at hlt
        obtain ⟨c1,c2⟩:=hcell k hlt
        have hlt':(k :Int)<O.length:=by omega
        have e1:=(hbk.cell (p:=⟨b,off+k*2,none⟩) hbl).trans ((hb3.cell (p:=⟨b,off+k*2,none⟩) hbl).trans c1)
        have e2:=(hbk.cell (p:=⟨b,off+k*2+1,none⟩) hbl).trans ((hb3.cell (p:=⟨b,off+k*2+1,none⟩) hbl).trans c2)
        have hx:=inU_true.1 (HA.out _ (getD_mem hlt))
        have ht:=tot_bound (A:=O.take k) fun u hu=>HA.out u (List.mem_of_mem_take hu)
        have hlen:=List.length_take_le k O
        have Hov:=hid (within_over (p:=p) HA.out hlt)
        have Htk:Hid (tot (O.take (k +1))=tot (O.take k)+(O.getD k (0,0)).2):=hid (by rw[take_at hlt,tot_snoc])
        obtain ⟨-,-,x1,x2⟩:=hx
        clear c1 c2 hcell
        generalize O.getD k (0,0)=y at*
        have t1:0≤tot (O.take k):=ht.1
        have t2:tot (O.take k)≤1000000000:=by omega
        clear ht hlen
        have hMa:∀o,Meter (wr.alloc o) wc.heap.size p k (tot (O.take k)):=fun o=>hMk.below ((Below.refl wr.heap.size wr).alloc (Nat.le_refl _) o) hlk
        go_wp2_with fail
        refine (within_any y wc.heap.size p k (tot (O.take k)) _ (hMa _) (by omega) (by omega) t1 t2 x1 x2).mono ?_
        rintro e w4 ⟨rfl,hM4,hb4⟩
        have hb34:Below wc.heap.size w3 w4:=hbk.trans (((Below.refl _ _).alloc (by omega) _).trans hb4)
        by_cases hq:(k :Int)+1≤p.c∧tot (O.take k)+y.2≤p.s
        · have hd:(decide ((k :Int)+1≤p.c)&&decide (tot (O.take k)+y.2≤p.s))=true:=by simp[hq.1,hq.2]
          rw[hd]
          have Hq:=hid hq
          clear hq hd hMa hMk hbk hb4 Hov
          go_wp2
          go_roundw
          case rel=>exact ⟨k+1,by omega,by go_num,by rw[Htk.out];exact hM4,hb34,fun _=>⟨by have:= Hq.out.1;omega,by rw[Htk.out];exact Hq.out.2⟩⟩
          case measure=>simp[intOf];omega
        · have hd:(decide ((k:Int)+1≤p.c)&&decide (tot (O.take k)+y.2≤p.s))=false:=by
            by_cases h1:(k:Int)+1≤p.c
            · by_cases h2:tot (O.take k)+y.2≤p.s
              · exact absurd ⟨h1,h2⟩ hq
              · simp[h2]
            · simp[h1]
          rw[hd]
          have HR:=hid (H1.out (Hov.out (by rw[Htk.out];exact hq)))
          clear hq hd hMa hMk hbk hb4 Hov
          go_wp2
          go_ret2
          unfold Answers
          rw[HR.out]
          exact ⟨.slice none 0 0,rfl,World.ownsRow_nil _ _ _ _,bbc.trans ((hb3.trans hb34).mono (by omega))⟩
      · have hkk:k=O.length:=by omega
        have HR:=hid (H2.out (by have:= hW.out (by omega);rw[hkk,List.take_length] at this;omega))
        clear hW
        go_wp2
        go_ret2
        unfold Answers
        rw[HR.out]
        exact ⟨.slice a5 O.length cap5,rfl,ownsRow_mono (ownsRow_below HO.out (hb3.trans hbk)) (by omega),bbc.trans ((hb3.trans hbk).mono (by omega))⟩
theorem add_any (p:Pa) (a:Option Addr) (cap:Nat) (L:List (Int ×Int)) (x:Int×Int) (w:World) (hL:Ents w a L):
  Calls Tryz.prog 173 #[pv p,.slice a L.length cap,uv x] w (Answers w (addU p L x)):=by
 by_cases h:wrongAdd p L x=0
 ·exact add_good p a cap L x w hL h
 ·exact add_bad p a cap L x w hL h
structure Lies (w:World) (a:Option Addr) (cap:Nat) (L:List (Int×Int)):Prop where
 ents:Ents w a L
 nil:a=none→cap=0
theorem Lies.below {w w':World}{a:Option Addr}{cap:Nat}{L:List (Int×Int)} (h:Lies w a cap L) (hb:Below w.heap.size w w'):Lies w' a cap L:=⟨h.ents.below hb,h.nil⟩
theorem Lies.none_nil {w:World}{cap:Nat}{L:List (Int×Int)}(h:Lies w none cap L):L=[]:=by
 rcases h.ents.2 with h|⟨b,off,h,-⟩
 ·exact h
 ·cases h
theorem lies_nil (w:World):Lies w none 0 []:=⟨⟨by simp[maxLen],Or.inl rfl⟩,fun _=>rfl⟩
def Past (B:Nat) (a:Option Addr):Prop:=∀ad,a=some ad→B≤ad.block
theorem lies_of_owns{w:World}{base:Nat}{v:Value}{L:List (Int ×Int)}(h:w.ownsRow base 151 2 v L.length (flat L)):∃a cap,v=.slice a L.length cap∧Lies w a cap L∧Past base a:=by
 obtain ⟨a,cap,hv,-,-,hE⟩:=ents_of_owns h
 rcases h.2 with ⟨h0,-⟩|⟨g,cap',cur,h0,hg,-⟩
 ·rw[hv] at h0
  obtain ⟨rfl,-,rfl⟩:=Value.slice.inj h0
  exact ⟨none,0,hv,⟨hE,fun _=>rfl⟩,fun _ h=>by cases h⟩
 ·rw[hv] at h0
  obtain ⟨rfl,-,-⟩:=Value.slice.inj h0
  exact ⟨_,cap,hv,⟨hE,fun h=>by cases h⟩,fun _ h=>by cases h;exact hg⟩
theorem Lies.set {w:World}{a:Option Addr}{cap:Nat}{L:List (Int×Int)} (h:Lies w a cap L){B:Nat} (hp:Past B a){p:Addr} (hb:p.block<B) (v:Value):Lies (w.setCell p v) a cap L:=by
 refine ⟨⟨h.ents.1,?_⟩,h.nil⟩
 rcases h.ents.2 with h0|⟨b,off,ha,hlt,hc⟩
 ·exact Or.inl h0
 ·have hq:=hp _ ha
  refine Or.inr ⟨b,off,ha,by simpa using hlt,fun i hi=>?_⟩
  have far:∀o,(w.setCell p v).cell? ⟨b,o,none⟩=w.cell? ⟨b,o,none⟩:=fun o=>World.cell?_setCell_other _ _ _ _ (fun h=>by subst h;dsimp only at hq hb;omega)
  rw [far,far]
  exact hc i hi
theorem flat_length (L:List (Int×Int)):(flat L).length=L.length*2:=by
 induction L with
 |nil=>rfl
 |cons e r ih=>simp only [flat,List.flatMap_cons,List.length_append,List.length_cons,List.length_nil] at ih⊢;omega
theorem flat_at (M:List (Int ×Int)):∀i,i<M.length→(flat M)[i*2]?=some (.int .i64 (M.getD i (0,0)).1)∧(flat M)[i*2+1]?=some (.int .i64 (M.getD i (0,0)).2):=by
 induction M with
 |nil=>intro i hi;simp at hi
 |cons e r ih=>
  intro i hi
  cases i with
  |zero=>simp[flat]
  |succ i=>
   have:= ih i (by simpa using hi)
   have e1:(i +1)*2=i*2+1+1:=by omega
   rw[e1]
   simpa[flat] using this
theorem flat_one (L:List (Int ×Int)):∀u∈flat L,u.oneCell'=true:=by
 intro u hu
 simp [flat] at hu
 obtain ⟨a,b,-,rfl|rfl⟩:=hu<;>rfl
theorem addr_add (b off j:Nat):(⟨b,off,none⟩:Addr).add j=⟨b,off+j,none⟩:=by
 unfold Addr.add;by_cases hj:j=0<;>simp[hj]
theorem ents_flat{w:World}{ad:Addr}{L:List (Int ×Int)}(h:Ents w (some ad) L):∀j u,(flat L)[j]?=some u→w.cell? (ad.add j)=some u:=by
 intro j u hj
 rcases h.2 with rfl|⟨b,off,ha,-,hc⟩
 ·simp[flat] at hj
 ·cases ha
  have hlt:j<L.length*2:=by
   have:= (List.getElem?_eq_some_iff.1 hj).1
   rw[flat_length] at this;exact this
  rw[addr_add]
  obtain ⟨k1,k2⟩:=flat_at L (j/2) (by omega)
  obtain ⟨c1,c2⟩:=hc (j/2) (by omega)
  rcases Nat.mod_two_eq_zero_or_one j with hm|hm
  ·have e:j/2*2=j:=by omega
   rw[e] at k1 c1
   rw[k1] at hj;cases hj;exact c1
  ·have e:j/2*2+1=j:=by omega
   have e':off+j/2*2+1=off+j:=by omega
   rw[e] at k2
   rw[e'] at c2
   rw[k2] at hj;cases hj;exact c2
def cv (c:Ca) (a:Option Addr) (cap:Nat):Value:=.agg #[.int .i64 c.m,.int .i64 c.h,.int .i64 c.p.t,.int .i64 c.p.c,.int .i64 c.p.s,.slice a c.u.length cap]
def co (c:Ca) (a:Option Addr) (cap:Nat):Obj:=.cells #[.int .i64 c.m,.int .i64 c.h,.int .i64 c.p.t,.int .i64 c.p.c,.int .i64 c.p.s,.slice a c.u.length cap] 61
structure CardAt (W:World) (b:Nat) (c:Ca) (a:Option Addr) (cap:Nat):Prop where
 block:W.heap[b]?=some (co c a cap)
 lies:Lies W a cap c.u
theorem CardAt.lt {W:World}{b:Nat}{c:Ca}{a:Option Addr}{cap:Nat}(h:CardAt W b c a cap):b<W.heap.size:=lt_of_block h.block
theorem CardAt.on {W W':World} {b:Nat} {c:Ca} {a:Option Addr} {cap:Nat} (h:CardAt W b c a cap) (hb:Below W.heap.size W W'):CardAt W' b c a cap:=
 ⟨(hb.block _ h.lt).trans h.block,h.lies.below hb⟩
theorem CardAt.alloc {W:World}{b:Nat}{c:Ca}{a:Option Addr}{cap:Nat}(h:CardAt W b c a cap) (o:Obj):CardAt (W.alloc o) b c a cap:=h.on (below_alloc W o)
theorem co_cells {W:World}{b:Nat}{c:Ca}{a:Option Addr}{cap:Nat}(hb:W.heap[b]?=some (co c a cap)):
  W.cell? ⟨b,0,none⟩=some (.int .i64 c.m)∧W.cell? ⟨b,1,none⟩=some (.int .i64 c.h)∧W.cell? ⟨b,2,none⟩=some (.int .i64 c.p.t)∧W.cell? ⟨b,3,none⟩=some (.int .i64 c.p.c)∧
  W.cell? ⟨b,4,none⟩=some (.int .i64 c.p.s)∧W.cell? ⟨b,5,none⟩=some (.slice a c.u.length cap):=by
 unfold co at hb
 refine ⟨?_,?_,?_,?_,?_,?_⟩<;>simp[World.cell?,hb]
theorem co_free {W:World} {b:Nat} {c:Ca} {a:Option Addr} {cap:Nat} (hb:W.heap[b]?=some (co c a cap)):
  W.frozen? ⟨b,0,none⟩=false∧W.frozen? ⟨b,1,none⟩=false∧W.frozen? ⟨b,2,none⟩=false∧W.frozen? ⟨b,3,none⟩=false∧W.frozen? ⟨b,4,none⟩=false∧W.frozen? ⟨b,5,none⟩=false:=by
 unfold co at hb
 refine ⟨?_,?_,?_,?_,?_,?_⟩<;>simp[World.frozen?,hb]
theorem CardAt.cells {W:World}{b:Nat}{c:Ca}{a:Option Addr}{cap:Nat}(h:CardAt W b c a cap):
  W.cell? ⟨b,0,none⟩=some (.int .i64 c.m)∧W.cell? ⟨b,1,none⟩=some (.int .i64 c.h)∧W.cell? ⟨b,2,none⟩=some (.int .i64 c.p.t)∧W.cell? ⟨b,3,none⟩=some (.int .i64 c.p.c)∧
  W.cell? ⟨b,4,none⟩=some (.int .i64 c.p.s)∧W.cell? ⟨b,5,none⟩=some (.slice a c.u.length cap):=co_cells h.block
theorem card_new (w:World) (c:Ca) (a:Option Addr) (cap:Nat) (h:Lies w a cap c.u):CardAt (w.alloc (co c a cap)) w.heap.size c a cap:=
 ⟨heap_alloc_at _ _ _ rfl,h.below (below_alloc _ _)⟩
def isT (n:Int):Bool:=decide (-1000000000000≤n)&&decide (n ≤1000000000000)
theorem isTotal_any (n:Int) (w:World):
  Calls Tryz.prog 61 #[.int .i64 n] w fun e w'=>e=.returned (.bool (isT n))∧w'=w:=by
 unfold isT
 by_cases h1:-1000000000000≤n<;>by_cases h2:n≤1000000000000
 all_goals
  go_enter Tryz.func61,Tryz.ntmps61
  go_wp2
  go_ret
  simp[h1,h2]
def isOne (n:Int):Bool:=decide (1≤n)&&decide (n ≤1000000)
theorem isSum_any (n:Int) (w:World):
  Calls Tryz.prog 172 #[.int .i64 n] w fun e w'=>e=.returned (.bool (isOne n))∧w'=w:=by
 unfold isOne
 by_cases h1:1≤n<;>by_cases h2:n≤1000000
 all_goals
  go_enter Tryz.func172,Tryz.ntmps172
  go_wp2
  go_ret
  simp [h1,h2]
theorem isT_true {n:Int}:isT n=true↔-1000000000000≤n∧n≤1000000000000:=by simp [isT]
theorem isT_false {n:Int}:isT n=false↔n< -1000000000000∨1000000000000<n:=by
 rw[←Bool.not_eq_true,isT_true];omega
theorem isOne_true {n:Int}:isOne n=true↔1≤n∧n≤1000000:=by simp[isOne]
theorem isOne_false {n:Int}:isOne n=false↔n<1∨1000000<n:=by
 rw[←Bool.not_eq_true,isOne_true];omega
theorem off_ways (m h:Int):
  (isT m=false∧Hid (off m h))∨(isT m=true∧isT h=false∧Hid (off m h))∨(isT m=true∧isT h=true∧h<0∧Hid (off m h))∨(isT m=true∧isT h=true∧0≤h∧Hid (¬off m h)):=by
 cases h1:isT m with
 |false=>exact Or.inl ⟨rfl,by have :=isT_false.1 h1;unfold Hid off;omega⟩
 |true=>
  cases h2:isT h with
  |false=>exact Or.inr (Or.inl ⟨rfl,rfl,by have :=isT_false.1 h2;unfold Hid off;omega⟩)
  |true=>
   have:= isT_true.1 h1
   have :=isT_true.1 h2
   by_cases h3:h<0
   ·exact Or.inr (Or.inr (Or.inl ⟨rfl,rfl,h3,by unfold Hid off;omega⟩))
   ·exact Or.inr (Or.inr (Or.inr ⟨rfl,rfl,by omega,by unfold Hid off;omega⟩))
theorem cbox {w w1:World}{c:Ca}{a:Option Addr}{cap:Nat} (h:Lies w a cap c.u) (hb:Below (w.alloc (co c a cap)).heap.size (w.alloc (co c a cap)) w1):
  Below w.heap.size w w1∧CardAt w1 w.heap.size c a cap:=
 ⟨(below_alloc _ _).trans (hb.mono (by simp)),(card_new w c a cap h).on hb⟩
theorem fieldFault (x y:Int) (w:World):(Instr.field 47 (.agg #[.int .i64 x,.int .i64 y]) 0).run Tryz.prog w=.ok (.int .i64 x) w:=by kernel_rfl
theorem cwrong_any (c:Ca) (a:Option Addr) (cap:Nat) (w:World) (hL:Lies w a cap c.u):
  Calls Tryz.prog 28 #[cv c a cap] w fun e w'=>e=.returned (.int .i64 (wrongC c))∧Below w.heap.size w w':=by
 unfold cv
 have b0:∀o,Below w.heap.size w (w.alloc o):=below_alloc w
 rcases off_ways c.m c.h with ⟨h1,H⟩|⟨h1,h2,H⟩|⟨h1,h2,h3,H⟩|⟨h1,h2,h3,H⟩
 ·have HW:=hid (wrongC_off H.out)
  go_enter Tryz.func28,Tryz.ntmps28
  go_wp2_with (go_at_call 61;refine (isTotal_any _ _).mono ?_;rintro e w1 ⟨rfl,rfl⟩;rw[h1])
  go_ret
  exact ⟨ret_int HW.out.symm,b0 _⟩
 ·have HW:=hid (wrongC_off H.out)
  go_enter Tryz.func28,Tryz.ntmps28
  go_wp2_with (go_at_call 61;refine (isTotal_any _ _).mono ?_;rintro e w1 ⟨rfl,rfl⟩;first|rw[h1]|rw[h2])
  go_ret
  exact ⟨ret_int HW.out.symm,b0 _⟩
 ·have HW:=hid (wrongC_off H.out)
  go_enter Tryz.func28,Tryz.ntmps28
  go_wp2_with (go_at_call 61;refine (isTotal_any _ _).mono ?_;rintro e w1 ⟨rfl,rfl⟩;first|rw[h1]|rw[h2])
  go_ret
  exact ⟨ret_int HW.out.symm,b0 _⟩
 by_cases hp:wrongP c.p=0
 ·have HW:=hid (wrongC_uses H.out hp)
  have hfd:=fieldFault
  go_enter Tryz.func28,Tryz.ntmps28
  go_wp2_with (first
   |(go_at_call 61;refine (isTotal_any _ _).mono ?_;rintro e w1 ⟨rfl,rfl⟩;first|rw[h1]|rw[h2])
   |(go_at_call 48;refine (wrong_any c.p _).mono ?_;rintro e w1 ⟨rfl,hb1⟩;rw[hp];obtain ⟨bb,hc⟩:=cbox hL hb1;obtain ⟨-,-,-,-,-,C5⟩:=hc.cells;have hL1:=hc.lies.ents;clear hb1 hc)
   |(go_at_call 62;refine (uses_any a cap c.u _ hL1).mono ?_;rintro e w2 ⟨rfl,hb2⟩))
  go_ret
  exact ⟨ret_int HW.out.symm,bb.trans (hb2.mono bb.size)⟩
 ·have HW:=hid (wrongC_pace H.out hp)
  have hne:(wrongP c.p !=0)=true:=by simpa using hp
  clear hp
  go_enter Tryz.func28,Tryz.ntmps28
  go_wp2_with (first
   |(go_at_call 61;refine (isTotal_any _ _).mono ?_;rintro e w1 ⟨rfl,rfl⟩;first|rw[h1]|rw[h2])
   |(go_at_call 48;refine (wrong_any c.p _).mono ?_;rintro e w1 ⟨rfl,hb1⟩;obtain ⟨bb,-⟩:=cbox hL hb1;generalize wrongP c.p=r at*;clear hb1))
  go_ret
  exact ⟨ret_int HW.out.symm,bb⟩
theorem free_any (c:Ca) (a:Option Addr) (cap:Nat) (w:World) (h1:-1000000000000≤c.m) (h2:c.m≤1000000000000) (h3:0≤c.h) (h4:c.h≤1000000000000):
  Calls Tryz.prog 32 #[cv c a cap] w fun e w'=>e=.returned (.int .i64 (c.m -c.h))∧Below w.heap.size w w':=by
 unfold cv
 go_enter Tryz.func32,Tryz.ntmps32
 go_wp2
 go_ret
 exact ⟨rfl,below_alloc _ _⟩
def Given (w:World) (c:Ca) (e:Ending) (w':World):Prop:=∃a cap,e=.returned (cv c a cap)∧Lies w' a cap c.u∧Past w.heap.size a∧Below w.heap.size w w'
theorem past_mono {B B':Nat}{a:Option Addr} (h:Past B a) (hb:B'≤B):Past B' a:=fun ad ha=>Nat.le_trans hb (h ad ha)
theorem past_none (B:Nat):Past B none:=fun _ h=>by cases h
theorem own_none (c:Ca) (w:World) (hu:c.u=[]):
  Calls Tryz.prog 179 #[cv c none 0] w (Given w c):=by
 obtain ⟨i0,hi,hz0,hz1,hz2⟩:=info_parts infoUse
 obtain ⟨m,h,p,u⟩:=c
 dsimp only at hu
 subst hu
 unfold cv
 dsimp only[List.length_nil]
 go_enter Tryz.func179,Tryz.ntmps179
 go_wp2_with (at_builtin;refine wpList_append_own_none rfl _ _ 59 rfl w.heap.size 151 i0 2 Tryz.underlying59 hi _ _ _ rfl (World.ownsRow_nil _ _ _ _) rfl ?_)
 refine bodyPost_ret (v:=.agg #[.int .i64 m,.int .i64 h,.int .i64 p.t,.int .i64 p.c,.int .i64 p.s,.slice none 0 0]) (by simp[results,Tryz.results179,go_sem];try rfl) rfl ⟨none,0,rfl,lies_nil _,past_none _,?_⟩
 exact ((below_alloc _ _).trans ((below_alloc _ _).mono (by simp)))
theorem own_some (c:Ca) (ad:Addr) (cap:Nat) (w:World) (hL:Lies w (some ad) cap c.u) (hf:c.u.length≤30):
  Calls Tryz.prog 179 #[cv c (some ad) cap] w (Given w c):=by
 obtain ⟨i0,hi,hz0,hz1,hz2⟩:=info_parts infoUse
 have hE:∀o o' j u,(flat c.u)[j]?=some u→((w.alloc o).alloc o').cell? (ad.add j)=some u:=fun o o'=>ents_flat ((hL.ents.below (below_alloc _ _)).below (below_alloc _ _))
 unfold cv
 go_enter Tryz.func179,Tryz.ntmps179
 go_wp2_with (at_builtin;refine wpList_append_own _ rfl _ _ 59 rfl (w.heap.size +2) 151 i0 (.agg #[.int .i64 0,.int .i64 0]) 2 16 Tryz.underlying59 hi hz0 hz1 hz2 rfl (by decide) _ _ _ rfl (World.ownsRow_nil _ _ _ _) ad c.u.length cap (flat c.u) rfl (flat_length _) (hE _ _) (flat_one _) ?c3 ?c4 ?c5 ?_)
 case c3=>unfold maxLen;omega
 case c4=>omega
 case c5=>simp
 intro v' w3 hown' hgrow _
 have hb:Below (w.heap.size +2) _ w3:=(Below.refl _ _).grown hgrow (by simp) (fun k hk=>by cases hk)
 obtain ⟨a',cap',rfl,hl',hpast⟩:=lies_of_owns hown'
 have hw:Below w.heap.size w w3:=((below_alloc _ _).trans ((below_alloc _ _).mono (by simp))).trans (hb.mono (by omega))
 have hc:w3.heap[w.heap.size]?=some (co c (some ad) cap):=by
  rw[hb.block _ (by omega),Below.heap_alloc _ _ _ (by simp)];exact heap_alloc_at _ _ _ rfl
 have hr:w3.heap[w.heap.size+1]?=some (co zeroC none 0):=by
  rw[hb.block _ (by omega)];exact heap_alloc_at _ _ _ (by simp)
 obtain ⟨C0,C1,C2,C3,C4,C5⟩:=co_cells hc
 obtain ⟨F0,F1,F2,F3,F4,F5⟩:=co_free hc
 obtain ⟨R0,R1,R2,R3,R4,R5⟩:=co_cells hr
 obtain ⟨E0,E1,E2,E3,E4,E5⟩:=co_free hr
 clear hown' hgrow hE hc hr hb
 go_wp2
 refine bodyPost_ret (v:=.agg #[.int .i64 c.m,.int .i64 c.h,.int .i64 c.p.t,.int .i64 c.p.c,.int .i64 c.p.s,.slice a' c.u.length cap']) (by simp[results,Tryz.results179,go_sem,R0,R1,R2,R3,R4,R5];try rfl) rfl ⟨a',cap',rfl,?_,past_mono hpast (by omega),?_⟩
 ·repeat refine Lies.set ?_ hpast (by simp) _
  exact hl'
 ·repeat refine Below.setCell ?_ (by simp) _
  exact hw
theorem own_any (c:Ca) (a:Option Addr) (cap:Nat) (w:World) (hL:Lies w a cap c.u) (hf:c.u.length≤30):
  Calls Tryz.prog 179 #[cv c a cap] w (Given w c):=by
 cases a with
 |none=>
  have h0:=hL.nil rfl
  subst h0
  exact own_none c w hL.none_nil
 |some ad=>exact own_some c ad cap w hL hf
end Go.Proofs.YtofcnebekmjdoaaGreatDoor
