import Derived.Test.YtofcnebekmjdoaaGreatDoorLDrnac
set_option maxHeartbeats 4000000
set_option maxRecDepth 100000
namespace Go.Proofs.YtofcnebekmjdoaaGreatDoor.Bn
open Go.RowKit Go.Proofs.YtofcnebekmjdoaaGreatDoor.Gn Go.Maps
theorem playR_ok {ps:List Pa} {shops cap:Int} {l:List Dd} (h:(playR ps shops cap l).2.2.1=0):(setErr ps shops cap).1=0∧l.length≤150∧playR ps shops cap l=((playL (startB ps shops.toNat cap) l).1,(playL (startB ps shops.toNat cap) l).2.map (·.2),(0,0)):=by
 unfold playR at h⊢
 by_cases h1:(setErr ps shops cap).1≠0
 ·rw[if_pos h1] at h;exact absurd h h1
 rw[if_neg h1] at h⊢
 by_cases h2:150<l.length
 ·rw[if_pos h2] at h;cases h
 rw[if_neg h2]
 exact ⟨by simpa using h1,by omega,rfl⟩
theorem playR_inv {ps:List Pa}{shops cap:Int}{l:List Dd}(h:(playR ps shops cap l).2.2.1=0):Inv (startB ps shops.toNat cap)∧Inv (playR ps shops cap l).1:=by
 obtain ⟨h1,-,h3⟩:=playR_ok h
 obtain ⟨o1,o2,o3,o4,o5,o6⟩:=set_ok h1
 have I:=start_inv (paces:=ps) (shops:=shops.toNat) (cap:=cap) o1 (by omega) ⟨o4,o5⟩ o6
 rw[h3]
 exact ⟨I,play_inv I l⟩
structure Bw (w Y:World) (g:Nat) (b:Bank) (v:Vs) (cs:List CV) (ds:List DV):Prop where
 box:Y.heap[g]?=some (bko b v)
 sh:Shows Y b v cs ds
 bel:Below w.heap.size w Y
theorem Bw.below {w Y Y':World} {g:Nat} {b:Bank} {v:Vs} {cs:List CV} {ds:List DV} (h:Bw w Y g b v cs ds) (hb:Below Y.heap.size Y Y'):Bw w Y' g b v cs ds:=
 ⟨(hb.block _ (lt_of_block h.box)).trans h.box,h.sh.below hb,h.bel.trans (hb.mono h.bel.size)⟩
theorem take_au {l:List Au.Au}{i:Nat} (hi:i<l.length):l.take (i +1)=l.take i++[l.getD i zA]:=by
 rw [List.take_add_one];simp [List.getD,hi]
theorem auth_cells {w:World}{a:Option Addr}{cap:Nat}{L:List Au.Au}(h:Gn.Lies kAu w a cap L){i:Nat}(hi:i<L.length):
  ∃z o,a=some ⟨z,o,none⟩∧z<w.heap.size∧w.cell? ⟨z,o+i*8,none⟩=some (.int .i64 (L.getD i zA).card)∧w.cell? ⟨z,o+i*8+1,none⟩=some (.int .i64 (L.getD i zA).shop)∧w.cell? ⟨z,o+i*8+2,none⟩=some (.int .i64 (L.getD i zA).sum)∧w.cell? ⟨z,o+i*8+3,none⟩=some (.int .i64 (L.getD i zA).cap)∧
   w.cell? ⟨z,o+i*8+4,none⟩=some (.int .i64 (L.getD i zA).ref)∧w.cell? ⟨z,o+i*8+5,none⟩=some (.int .i64 (L.getD i zA).dis)∧w.cell? ⟨z,o+i*8+6,none⟩=some (.int .i64 (L.getD i zA).till)∧w.cell? ⟨z,o+i*8+7,none⟩=some (.bool (L.getD i zA).shut):=by
 obtain ⟨z,o,ha,hb,hc⟩:=h.elem (i:=i) (x:=L.getD i zA) (by simp[List.getD,hi])
 exact ⟨z,o,ha,hb,hc 0 _ rfl,hc 1 _ rfl,hc 2 _ rfl,hc 3 _ rfl,hc 4 _ rfl,hc 5 _ rfl,hc 6 _ rfl,hc 7 _ rfl⟩
theorem pero_cells {w:World}{z:Nat}{x1 x2 x3 x4 x5 x6 x7:Int}{x8:Bool} (h:w.heap[z]?=some (.cells #[.int .i64 x1,.int .i64 x2,.int .i64 x3,.int .i64 x4,.int .i64 x5,.int .i64 x6,.int .i64 x7,.bool x8] 66)):
  w.cell? ⟨z,0,none⟩=some (.int .i64 x1)∧w.cell? ⟨z,1,none⟩=some (.int .i64 x2)∧w.cell? ⟨z,2,none⟩=some (.int .i64 x3)∧w.cell? ⟨z,3,none⟩=some (.int .i64 x4)∧w.cell? ⟨z,4,none⟩=some (.int .i64 x5)∧w.cell? ⟨z,5,none⟩=some (.int .i64 x6)∧w.cell? ⟨z,6,none⟩=some (.int .i64 x7)∧w.cell? ⟨z,7,none⟩=some (.bool x8):=by
 refine ⟨?_,?_,?_,?_,?_,?_,?_,?_⟩<;>simp [World.cell?,h]
theorem zeroBo (w:World):(zeroValue 4).run Tryz.prog w=.ok (.bool false) w:=by kernel_rfl
def rBo (v:Value):Option (DataW Unit×List MemPlace):=
 match v with
 |.bool b=>some (.lit (.bool b),[])
 |_=>none
theorem rBo_inv {v:Value} {b:Bool} {ps:List MemPlace} (h:rBo v=some (.lit (.bool b),ps)):v=.bool b:=by
 unfold rBo at h
 split at h
 ·simp at h;rw[h.1]
 ·cases h
abbrev OwnsH (w:World) (m n:Nat) (D:DataW Unit):Prop:=w.ownsMap Tryz.prog 3 rBo m n D
theorem hs_nil:Hs [] (.map []):=⟨isMap_empty,fun _=>rfl⟩
theorem Hs.same {L M:List Int}{D:DataW Unit}(h:Hs L D) (hm:∀i,i∈M↔i∈L):Hs M D:=⟨h.is,fun i=>by rw[h.at' i];simp[hm i]⟩
theorem had_look {X:World}{m n:Nat}{D:DataW Unit}{L:List Int} (O:OwnsH X m n D) (t:Hs L D){id:Int} (h1:-9223372036854775808≤id) (h2:id≤9223372036854775807):
  (Instr.lookup 77 (.map (some m)) (.int .i64 id) false).run Tryz.prog X=.ok (.bool (decide (id ∈L))) X:=by
 obtain ⟨v,ps,hrun,hv⟩:=O.lookup (t:=77) lawI Tryz.underlying77 (zeroBo X) (show rBo (.bool false)=some (.lit (.bool false),[]) from rfl) (keyOf_int_mk Tryz.underlying3 (WalkArith.wf_i64 (n:=id) ⟨h1,h2⟩))
 rw [t.at' id] at hv
 rw [hrun,rBo_inv hv]
theorem had_put {X:World}{m n:Nat}{D:DataW Unit} (O:OwnsH X m n D) (hn:n≤1000000){id:Int} (h1:-9223372036854775808≤id) (h2:id≤9223372036854775807):
  ∃w',(Instr.mapUpdate 77 (.map (some m)) (.int .i64 id) (.bool true)).run Tryz.prog X=.ok () w'∧OwnsH w' m (n+1) (D.put (.int .i64 id) (.lit (.bool true)))∧X.grownBy w' (some m)∧w'.heap.size=X.heap.size:=by
 obtain ⟨w',r1,r2,r3⟩:=O.store (t:=77) lawI Tryz.underlying77 (by unfold maxLen;omega) (keyOf_int_mk Tryz.underlying3 (WalkArith.wf_i64 (n:=id) ⟨h1,h2⟩)) (show rBo (.bool true)=some (.lit (.bool true),[]) from rfl)
 refine ⟨w',r1,r2,r3.grown,?_⟩
 obtain ⟨es,clock,es',clock',-,rfl⟩:=r3
 simp [Go.ChangeMaps.setBlock]
open Go.Proofs.YtofcnebekmjdoaaGreatDoor
theorem log_len (b:Bank) (l:List Dd):(playL b l).2.length=l.length:=by
 have:= congrArg List.length (playL_log b l)
 rwa[List.length_map] at this
open Go.Proofs.YtofcnebekmjdoaaGreatDoor
theorem play1_more (s:Bank×List (Dd×An)) (d:Dd):∃x,(play1 s d).2=s.2++[x]:=by
 unfold play1
 split
 ·exact ⟨_,rfl⟩
 ·exact ⟨_,rfl⟩
theorem fold_log (r:List Dd):∀s:Bank×List (Dd ×An),∃t,(r.foldl play1 s).2=s.2++t:=by
 induction r with
 |nil=>intro s;exact ⟨[],by simp⟩
 |cons d r ih=>
  intro s
  obtain ⟨x,hx⟩:=play1_more s d
  obtain ⟨t,ht⟩:=ih (play1 s d)
  exact ⟨x::t,by rw[List.foldl_cons,ht,hx];simp⟩
theorem playL_at (b:Bank) (l:List Dd) (i:Nat):playL b l=(l.drop i).foldl play1 (playL b (l.take i)):=by
 unfold playL
 rw[←List.foldl_append,List.take_append_drop]
theorem log_take (b:Bank) (l:List Dd){i:Nat}(hi:i≤l.length):(playL b l).2.take i=(playL b (l.take i)).2:=by
 obtain ⟨t,ht⟩:=fold_log (l.drop i) (playL b (l.take i))
 have hn:(playL b (l.take i)).2.length=i:=by rw[log_len,List.length_take];omega
 rw[playL_at b l i,ht]
 exact List.take_left' hn
def ans (b:Bank) (l:List Dd) (i:Nat):An:=((playL b l).2.map (·.2)).getD i (0,0)
theorem log_at (b:Bank) (l:List Dd){i:Nat}(hi:i<l.length):(playL b l).2[i]?=some (l.getD i zD,ans b l i):=by
 have hi':i<(playL b l).2.length:=by rw[log_len];exact hi
 have h1:((playL b l).2[i]).1=l.getD i zD:=by
  have: ((playL b l).2.map (·.1))[i]?=l[i]?:=by rw[playL_log]
  rw[List.getElem?_map,List.getElem?_eq_getElem hi',List.getElem?_eq_getElem hi] at this
  simpa[List.getD,hi] using this
 rw[List.getElem?_eq_getElem hi',←h1]
 unfold ans
 simp[List.getD,hi']
theorem told_mem {id:Int}{L:List (Dd×An)}:told id L≠none↔id∈L.map (·.1.id):=by
 induction L with
 |nil=>simp[told]
 |cons x r ih=>
  simp only[told,List.map_cons,List.mem_cons]
  split
  ·rename_i h;simp[h]
  ·rename_i h
   rw[ih]
   constructor
   ·exact Or.inr
   ·rintro (e|e)
    ·exact absurd e.symm h
    ·exact e
def ids (l:List Dd) (i:Nat):List Int:=(l.take i).map (·.id)
theorem told_ids (b:Bank) (l:List Dd) (i:Nat) (id:Int):told id (playL b (l.take i)).2≠none↔id∈ids l i:=by
 rw[told_mem]
 unfold ids
 have: (playL b (l.take i)).2.map (fun x=>x.1.id)=((playL b (l.take i)).2.map (·.1)).map (·.id):=by rw[List.map_map];rfl
 rw[this,playL_log]
theorem ids_next {l:List Dd}{i:Nat}(hi:i<l.length):ids l (i+1)=ids l i++[(l.getD i zD).id]:=by
 unfold ids
 rw[take_snoc l hi];simp
theorem ans_new (b:Bank) (l:List Dd){i:Nat}(hi:i<l.length) (hn:(l.getD i zD).id=0∨(l.getD i zD).id∉ids l i):ans b l i=(doB (playL b (l.take i)).1 (l.getD i zD)).2:=by
 have h1:=log_take b l (i:=i+1) (by omega)
 rw[take_snoc l hi,playL_snoc] at h1
 have h2:(if (l.getD i zD).id=0 then none else told (l.getD i zD).id (playL b (l.take i)).2)=none:=by
  split
  ·rfl
  ·rename_i h0
   rcases hn with h|h
   ·exact absurd h h0
   ·rw[←told_ids b] at h;simpa using h
 unfold play1 at h1
 rw[h2] at h1
 dsimp only at h1
 have h3:((playL b l).2.take (i +1))[i]?=some (l.getD i zD,ans b l i):=by
  rw[List.getElem?_take,if_pos (by omega)];exact log_at b l hi
 rw[h1] at h3
 have hl:(playL b (l.take i)).2.length=i:=by rw[log_len,List.length_take];omega
 rw[List.getElem?_append_right (by omega),hl,Nat.sub_self] at h3
 have :=congrArg Prod.snd (Option.some.inj h3)
 exact this.symm
open Go.Proofs.YtofcnebekmjdoaaGreatDoor
def Named (b:Bank) (acc:Int):Prop:=acc=0∨acc=1∨acc=2∨(10 ≤acc∧acc<10+b.cards.length)∨(50 ≤acc∧acc<50+b.due.length)
def outD (b:Bank) (d:Dd):Int:=if (doB b d).2.1=0 then (if d.kind=1 then-d.sum else if d.kind=11 then b.dueOf d.n else 0) else 0
structure Accts (b x:Bank) (o:Int):Prop where
 out:Bk.getE x.book 0=Bk.getE b.book 0+o
 none:∀acc,¬Named b acc→Bk.getE x.book acc=Bk.getE b.book acc
 cards:x.cards.length=b.cards.length
 due:x.due.length=b.due.length
theorem accts_same {b x:Bank}(h1:x.book=b.book) (h2:x.cards.length=b.cards.length) (h3:x.due.length=b.due.length):Accts b x 0:=⟨by rw[h1];omega,fun acc _=>by rw[h1],h2,h3⟩
theorem accts_move {b x:Bank}{src dst n:Int}(h:(moveB b.book src dst n).2=0) (h1:x.book=(moveB b.book src dst n).1) (hs:Named b src) (hd:Named b dst) (h2:x.cards.length=b.cards.length) (h3:x.due.length=b.due.length):
  Accts b x ((if src=0 then-n else 0)+(if dst=0 then n else 0)):=by
 obtain ⟨-,m2⟩:=moveB_zero h
 refine ⟨by rw[h1,m2];omega,fun acc ha=>?_,h2,h3⟩
 rw[h1,m2,if_neg (show¬src=acc from fun e=>ha (e▸hs)),if_neg (show¬dst=acc from fun e=>ha (e▸hd))];omega
theorem accts_in {b x:Bank} {src dst n:Int} (h:(moveB b.book src dst n).2=0) (h1:x.book=(moveB b.book src dst n).1) (hs:Named b src) (hd:Named b dst) (s0:src≠0) (d0:dst≠0) (h2:x.cards.length=b.cards.length) (h3:x.due.length=b.due.length):Accts b x 0:=by
 have:= accts_move h h1 hs hd h2 h3
 rwa[if_neg s0,if_neg d0] at this
theorem load_accts {b:Bank}{d:Dd}(h:(loadB b d).2=0):Accts b (loadB b d).1 (-d.sum):=by
 unfold loadB at h⊢
 split at h
 ·cases h
 rename_i h1
 rw[if_neg h1]
 split at h
 ·cases h
 rename_i h2
 rw[if_neg h2]
 split at h
 ·rename_i h3;exact absurd h h3
 rename_i h3
 rw[if_neg h3]
 split at h
 ·rename_i h4;exact absurd h h4
 rename_i h4
 rw[if_neg h4]
 have:= accts_move (x:={b with cards:=b.cards.set d.n.toNat (shiftC (b.card d.n) 0 d.sum).1,book:=(moveB b.book 0 (10+d.n) d.sum).1}) (Decidable.not_not.1 h4) rfl (Or.inl rfl) (by unfold Named;omega) (by simp) rfl
 rwa[if_pos rfl,if_neg (by omega),Int.add_zero] at this
theorem pay_accts {b:Bank} {d:Dd} (h:(payB b d).2=0):Accts b (payB b d).1 (b.dueOf d.n):=by
 unfold payB at h⊢
 split at h
 ·cases h
 rename_i h1
 rw[if_neg h1]
 split at h
 ·cases h
 rename_i h2
 rw[if_neg h2]
 split at h
 ·rename_i h3;exact absurd h h3
 rename_i h3
 rw[if_neg h3]
 have:= accts_move (x:={b with due:=b.due.set d.n.toNat 0,book:=(moveB b.book (50 +d.n) 0 (b.dueOf d.n)).1}) (Decidable.not_not.1 h3) rfl (by unfold Named;omega) (Or.inl rfl) rfl (by simp)
 rwa[if_neg (by omega),if_pos rfl,Int.zero_add] at this
theorem move_accts {b:Bank}{d:Dd}(I:Inv b) (h:(moveD b d).2=0):Accts b (moveD b d).1 0:=by
 unfold moveD at h⊢
 split at h
 ·cases h
 rename_i q1
 rw [if_neg q1]
 split at h
 ·cases h
 rename_i q2
 rw [if_neg q2]
 split at h
 ·rename_i q;exact absurd h q
 rename_i q3
 rw [if_neg q3]
 split at h
 ·cases h
 rename_i q4
 rw [if_neg q4]
 split at h
 ·rename_i q;exact absurd h q
 rename_i q5
 rw [if_neg q5]
 split at h
 ·rename_i q;exact absurd h q
 rename_i q6
 rw [if_neg q6]
 split at h
 ·rename_i q;exact absurd h q
 rename_i q7
 rw [if_neg q7]
 split at h
 ·cases h
 rename_i q8
 rw [if_neg q8]
 replace q6:(bookBy b.book (b.auth d.n) d.mv d.sum).2=0:=Decidable.not_not.1 q6
 obtain ⟨r1,-,r3,r4⟩:=I.held.auth (k:=d.n) (by omega) (by omega)
 have hc0:0≤(b.auth d.n).card:=r1.2.2.2.2.1.1
 have hs0:0≤(b.auth d.n).shop:=r1.2.2.2.2.2.1.1
 have e1:(moveAll b d).book=(bookBy b.book (b.auth d.n) d.mv d.sum).1:=rfl
 have e2:(moveAll b d).cards.length=b.cards.length:=by simp [moveAll]
 have e3:(moveAll b d).due.length=b.due.length:=by simp [moveAll]
 have nc:Named b (10+(b.auth d.n).card):=by unfold Named;omega
 have ns:Named b (50 +(b.auth d.n).shop):=by unfold Named;omega
 have n1:Named b 1:=Or.inr (Or.inl rfl)
 have n2:Named b 2:=Or.inr (Or.inr (Or.inl rfl))
 unfold bookBy at q6 e1
 split at q6
 ·rename_i k;rw [if_pos k] at e1
  exact accts_in q6 e1 nc n1 (by omega) (by omega) e2 e3
 rename_i k;rw [if_neg k] at e1
 split at q6
 ·rename_i k;rw [if_pos k] at e1
  exact accts_in q6 e1 ns n1 (by omega) (by omega) e2 e3
 rename_i k;rw [if_neg k] at e1
 split at q6
 ·rename_i k;rw [if_pos k] at e1
  exact accts_in q6 e1 n2 nc (by omega) (by omega) e2 e3
 rename_i k;rw [if_neg k] at e1
 split at q6
 ·rename_i k;rw [if_pos k] at e1
  exact accts_in q6 e1 nc n2 (by omega) (by omega) e2 e3
 rename_i k;rw [if_neg k] at e1
 exact accts_same e1 e2 e3
theorem arrive_accts {b:Bank}{d:Dd}{lost:Bool} (I:Inv b) (h:(arriveB b d lost).2=0):Accts b (arriveB b d lost).1 0:=by
 unfold arriveB at h⊢
 by_cases h1:d.n<0∨1<d.n
 ·rw[if_pos h1] at h;cases h
 rw[if_neg h1] at h⊢
 generalize sideOf d.n=i at*
 cases hw:b.way i with
 |nil=>rw[hw] at h;cases h
 |cons p r=>
  rw[hw] at h
  dsimp only at h⊢
  cases lost with
  |true=>rw[if_pos rfl];exact accts_same rfl rfl rfl
  |false=>
   rw[if_neg (by simp)] at h⊢
   have hp:=I.sent.ways i p (by rw[hw];exact List.mem_cons_self)
   unfold arriveAt at h⊢
   by_cases h2:0≤p.seen
   ·rw[if_pos h2] at h⊢
    split at h
    ·rename_i h3;exact absurd h h3
    rename_i h3
    rw[if_neg h3]
    exact accts_same rfl rfl rfl
   ·rw[if_neg h2] at h⊢
    by_cases h3:p.t.n≠b.seen i+1∨1000000≤b.seen i
    ·rw[if_pos h3];exact accts_same rfl rfl rfl
    ·rw[if_neg h3] at h⊢
     have ht:p.t∈(b.snd (!i)).kept:=by
      rcases hp with ⟨-,g1|g1⟩|⟨g1,-⟩
      ·omega
      ·exact g1
      ·omega
     have hin:=kept_in I (!i) p.t ht
     obtain ⟨r1,-,r3,r4⟩:=I.held.auth hin.1 hin.2
     have hc0:0≤(b.auth p.t.a).card:=r1.2.2.2.2.1.1
     have hs0:0≤(b.auth p.t.a).shop:=r1.2.2.2.2.2.1.1
     have nc:Named b (10+(b.auth p.t.a).card):=by unfold Named;omega
     have ns:Named b (50 +(b.auth p.t.a).shop):=by unfold Named;omega
     have n1:Named b 1:=Or.inr (Or.inl rfl)
     have n2:Named b 2:=Or.inr (Or.inr (Or.inl rfl))
     unfold comes at h⊢
     by_cases k1:p.t.k=1
     ·rw[if_pos k1] at h⊢
      split at h
      ·rename_i q;exact absurd h q
      rename_i q
      rw[if_neg q]
      exact accts_in (Decidable.not_not.1 q) rfl n1 ns (by omega) (by omega) rfl (by simp)
     rw[if_neg k1] at h⊢
     by_cases k2:p.t.k=2
     ·rw[if_pos k2] at h⊢
      split at h
      ·rename_i q;exact absurd h q
      rename_i q
      rw[if_neg q]
      split at h
      ·rename_i q2;exact absurd h q2
      rename_i q2
      rw[if_neg q2]
      exact accts_in (Decidable.not_not.1 q2) rfl n1 nc (by omega) (by omega) (by simp) rfl
     rw[if_neg k2] at h⊢
     by_cases k3:p.t.k=3
     ·rw[if_pos k3] at h⊢
      split at h
      ·rename_i q;exact absurd h q
      rename_i q
      rw[if_neg q]
      exact accts_in (Decidable.not_not.1 q) rfl ns n2 (by omega) (by omega) rfl (by simp)
     rw[if_neg k3]
     exact accts_same rfl rfl rfl
theorem fold_len {α:Type}(f:List Ca→α→List Ca) (hf:∀cs a,(f cs a).length=cs.length) (L:List α):∀cs,(L.foldl f cs).length=cs.length:=by
 induction L with
 |nil=>intro cs;rfl
 |cons x r ih=>intro cs;rw[List.foldl_cons,ih,hf]
theorem shut_cards (b:Bank):(shutB b).cards.length=b.cards.length:=fold_len _ (fun cs a=>by simp [lateC]) _ _
theorem do_accts{b:Bank}{d:Dd}(I:Inv b):Accts b (doB b d).1 (outD b d):=by
 by_cases h:(doB b d).2.1=0
 case neg=>
  have :outD b d=0:=by unfold outD;rw[if_neg h]
  rw[doB_refused b d h,this];exact accts_same rfl rfl rfl
 have ho:outD b d=(if d.kind=1 then-d.sum else if d.kind=11 then b.dueOf d.n else 0):=by unfold outD;rw[if_pos h]
 rw[ho]
 clear ho
 unfold doB at h⊢
 by_cases k1:d.kind=1
 ·rw[if_pos k1] at h⊢
  rw[if_pos k1]
  exact load_accts h
 rw[if_neg k1] at h⊢
 rw[if_neg k1]
 by_cases k11:d.kind=11
 ·rw[if_neg (by omega),if_neg (by omega),if_neg (by omega),if_neg (by omega),if_neg (by omega),if_neg (by omega),if_neg (by omega),if_neg (by omega),if_neg (by omega),if_pos k11] at h⊢
  rw[if_pos k11]
  exact pay_accts h
 have h0:(if d.kind=11 then b.dueOf d.n else (0 :Int))=0:=if_neg k11
 rw[h0]
 clear h0
 split at h
 ·rename_i e;rw[if_pos e]
  unfold askB askDown askUp
  repeat' split
  all_goals exact accts_same rfl (by simp) rfl
 rename_i e;rw[if_neg e]
 split at h
 ·rename_i e;rw[if_pos e];exact move_accts I h
 rename_i e;rw[if_neg e]
 split at h
 ·rename_i e;rw[if_pos e]
  unfold two tickB
  split
  ·exact accts_same rfl rfl rfl
  split
  ·exact accts_same rfl rfl rfl
  ·exact accts_same rfl (shut_cards _) rfl
 rename_i e;rw[if_neg e]
 split at h
 ·rename_i e;rw[if_pos e]
  unfold two sendB
  repeat' split
  all_goals exact accts_same rfl rfl rfl
 rename_i e;rw[if_neg e]
 split at h
 ·rename_i e;rw[if_pos e];exact arrive_accts I h
 rename_i e;rw[if_neg e]
 split at h
 ·rename_i e;rw[if_pos e];exact arrive_accts I h
 rename_i e;rw[if_neg e]
 split at h
 ·rename_i e;rw[if_pos e]
  unfold two downB
  repeat' split
  all_goals exact accts_same rfl rfl rfl
 rename_i e;rw[if_neg e]
 split at h
 ·rename_i e;rw[if_pos e]
  unfold two upB
  split
  ·exact accts_same rfl ((shut_cards _).trans (fold_len _ (fun cs a=>by simp[forceL]) _ _)) rfl
  ·exact accts_same rfl rfl rfl
 rename_i e;rw[if_neg e]
 split at h
 ·rename_i e;rw[if_pos e];exact accts_same rfl rfl rfl
 rename_i e;rw[if_neg e,if_neg k11]
 exact accts_same rfl rfl rfl
open Go.Proofs.YtofcnebekmjdoaaGreatDoor
structure Still (b x:Bank):Prop where
 plain:Plain b x
 cards:x.cards.length=b.cards.length
 due:x.due.length=b.due.length
 cb:∀k,k<b.cards.length→cbal k x=cbal k b
 db:∀k,bal k x=bal k b
 out:Bk.getE x.book 0=Bk.getE b.book 0
theorem Still.trans{a b c:Bank}(h:Still a b) (h2:Still b c):Still a c:=
 ⟨⟨h2.plain.auths.trans h.plain.auths,h2.plain.time.trans h.plain.time,h2.plain.down.trans h.plain.down,h2.plain.stand.trans h.plain.stand,h2.plain.today.trans h.plain.today,h2.plain.days.trans h.plain.days⟩,h2.cards.trans h.cards,h2.due.trans h.due,
  fun k hk=>(h2.cb k (by rw[h.cards];exact hk)).trans (h.cb k hk),fun k=>(h2.db k).trans (h.db k),h2.out.trans h.out⟩
theorem start_bound (ps:List Pa) (n:Nat) (cap:Int):Bound 0 (startB ps n cap):=fun acc _=>by
 show-(1000000 *((0:Nat):Int))≤Bk.getE [] acc∧Bk.getE [] acc≤_
 have :Bk.getE [] acc=0:=rfl
 rw[this];omega
open Go.Proofs.YtofcnebekmjdoaaGreatDoor
theorem play1_lens {s:Bank×List (Dd ×An)} (I:Inv s.1) (d:Dd):(play1 s d).1.cards.length=s.1.cards.length∧(play1 s d).1.due.length=s.1.due.length:=by
 unfold play1
 split
 ·exact ⟨rfl,rfl⟩
 ·exact ⟨(do_accts I).cards,(do_accts I).due⟩
theorem play_lens {b:Bank} (I:Inv b) (l:List Dd):(playL b l).1.cards.length=b.cards.length∧(playL b l).1.due.length=b.due.length:=by
 have key:∀(l:List Dd) (s:Bank×List (Dd ×An)),Inv s.1→(l.foldl play1 s).1.cards.length=s.1.cards.length∧(l.foldl play1 s).1.due.length=s.1.due.length:=by
  intro l
  induction l with
  |nil=>intro s _;exact ⟨rfl,rfl⟩
  |cons d r ih=>
   intro s hI
   have h1:=play1_lens hI d
   have h2:=ih (play1 s d) (play1_inv hI d)
   exact ⟨h2.1.trans h1.1,h2.2.trans h1.2⟩
 exact key l (b,[]) I
theorem due_tot {b:Bank}(I:Inv b){k:Nat}(hk:k<b.due.length):-1000000000000≤b.due.getD k 0∧b.due.getD k 0≤1000000000000:=by
 rw[←I.books.accS k hk]
 exact Bk.getE_tot (Bk.wrong_ok.1 I.books.right) _
theorem new_of {b:Bank}{l:List Dd}{i:Nat} (hn:(l.getD i zD).id=0∨(l.getD i zD).id∉ids l i):isNew (playL b (l.take i)) (l.getD i zD)=true:=by
 unfold isNew
 split
 ·rfl
 ·rename_i h0
  rcases hn with h|h
  ·exact absurd h h0
  ·rw [←told_ids b] at h
   have :told (l.getD i zD).id (playL b (l.take i)).2=none:=by simpa using h
   rw [this];rfl
theorem old_of {b:Bank}{l:List Dd}{i:Nat}(h0:(l.getD i zD).id≠0) (hm:(l.getD i zD).id∈ids l i):isNew (playL b (l.take i)) (l.getD i zD)=false:=by
 unfold isNew
 rw[if_neg h0]
 rw[←told_ids b] at hm
 cases e:told (l.getD i zD).id (playL b (l.take i)).2 with
 |none=>exact absurd e hm
 |some x=>rfl
theorem paid_old {b:Bank} {l:List Dd} {i:Nat}(h0:(l.getD i zD).id≠0) (hm:(l.getD i zD).id∈ids l i) (k:Nat):paidTo b l k (i +1)=paidTo b l k i:=by
 show paidTo b l k i+paid1 _ _ k=_
 unfold paid1
 rw[old_of h0 hm]
 simp
theorem paid_no {b:Bank}{l:List Dd}{i:Nat}(hi:i<l.length) (hn:(l.getD i zD).id=0∨(l.getD i zD).id∉ids l i) (h:¬((l.getD i zD).kind=11∧(ans b l i).1=0)) (k:Nat):paidTo b l k (i+1)=paidTo b l k i:=by
 show paidTo b l k i+paid1 _ _ k=_
 unfold paid1
 rw[new_of hn,if_pos rfl]
 unfold paysOut
 rw[←ans_new b l hi hn,if_neg (fun q=>h ⟨q.1,q.2.1⟩)]
 omega
theorem paid_yes {b:Bank}(I:Inv b){l:List Dd}{i:Nat}(hi:i<l.length) (hn:(l.getD i zD).id=0∨(l.getD i zD).id∉ids l i) (h1:(l.getD i zD).kind=11) (h2:(ans b l i).1=0):
  ∃n:Nat,(l.getD i zD).n=n∧n<b.due.length∧∀k,paidTo b l k (i+1)=paidTo b l k i+if k=n then (playL b (l.take i)).1.due.getD n 0 else 0:=by
 have e:=ans_new b l hi hn
 have hp:(payB (playL b (l.take i)).1 (l.getD i zD)).2=0:=by
  rw[e] at h2
  unfold doB at h2
  rw[if_neg (by omega),if_neg (by omega),if_neg (by omega),if_neg (by omega),if_neg (by omega),if_neg (by omega),if_neg (by omega),if_neg (by omega),if_neg (by omega),if_neg (by omega),if_pos h1] at h2
  exact h2
 have hr:¬((l.getD i zD).n<0∨((playL b (l.take i)).1.due.length:Int)≤(l.getD i zD).n):=fun q=>by
  unfold payB at hp
  rw[if_pos q] at hp
  exact absurd (show (6:Int)=0 from hp) (by decide)
 rw[(play_lens I (l.take i)).2] at hr
 refine ⟨(l.getD i zD).n.toNat,by omega,by omega,fun k=>?_⟩
 show paidTo b l k i+paid1 _ _ k=_
 unfold paid1
 rw[new_of hn,if_pos rfl]
 unfold paysOut
 rw[←e]
 by_cases hk:k=(l.getD i zD).n.toNat
 ·rw[if_pos ⟨h1,h2,by omega⟩,if_pos hk];rfl
 ·rw[if_neg (fun q=>hk (by have:= q.2.2;omega)),if_neg hk]
theorem paid_small{b:Bank}(I:Inv b){l:List Dd}(k:Nat):∀i,i≤l.length→-(1000000000000*(i :Int))≤paidTo b l k i∧paidTo b l k i≤1000000000000*(i :Int):=by
 intro i
 induction i with
 |zero=>intro _;show _≤(0:Int)∧(0:Int)≤_;omega
 |succ i ih=>
  intro hi
  have h:=ih (by omega)
  have hp:-1000000000000≤paid1 (playL b (l.take i)) (l.getD i zD) k∧paid1 (playL b (l.take i)) (l.getD i zD) k≤1000000000000:=by
   unfold paid1
   split
   ·unfold paysOut
    split
    ·rename_i q
     have hk:k<b.due.length∨b.due.length≤k:=by omega
     unfold Bank.dueOf
     rw[q.2.2,Int.toNat_natCast]
     by_cases hk:k<(playL b (l.take i)).1.due.length
     ·exact due_tot (play_inv I _) hk
     ·have e0:(playL b (l.take i)).1.due.getD k 0=0:=by simp[List.getD,hk]
      rw[e0];decide
    ·decide
   ·decide
  show _≤paidTo b l k i+paid1 _ _ k∧paidTo b l k i+paid1 _ _ k≤_
  omega
theorem drain_facts {ps:List Pa}{shops:Nat}{cap:Int}{l:List Dd}(I:Inv (startB ps shops cap)) (hl:l.length≤40) (hw:∀i,((playL (startB ps shops cap) l).1.way i).length≤12) (hk:∀i,((playL (startB ps shops cap) l).1.snd i).kept.length≤12):
  (∀i,((playL (startB ps shops cap) (l++drainL)).1.snd i).kept=[])∧Bk.getE (playL (startB ps shops cap) (l++drainL)).1.book 1=0∧
  ∀k,(playL (startB ps shops cap) (l ++drainL)).1.due.getD k 0=sumOn (captBy k) (playL (startB ps shops cap) (l++drainL)).1.auths-paidTo (startB ps shops cap) (l++drainL) k (l ++drainL).length:=by
 have h0:∀d∈drainL,d.id=0:=by
  intro d hd
  unfold drainL roundL at hd
  simp only[List.mem_append,List.mem_cons,List.mem_replicate,List.not_mem_nil,or_false] at hd
  rcases hd with ((⟨-,rfl⟩|⟨-,rfl⟩)| (((rfl|rfl)|⟨-,rfl⟩)|⟨-,rfl⟩))| (((rfl|rfl)|⟨-,rfl⟩)|⟨-,rfl⟩)<;>rfl
 have B:=play_bound I (start_bound ps shops cap) l
 have D:=drain_ok (play_inv I l) B (by omega) hw hk
 have hb:=play_bal I (l++drainL)
 rw[playL_run _ l _ h0] at*
 refine ⟨D.1,D.2.2.1,fun k=>?_⟩
 have h1:=hb k (l ++drainL).length (Nat.le_refl _)
 rw[List.take_length,playL_run _ l _ h0,start_bal] at h1
 rw[due_end k (D.1 false),h1]
 omega
theorem infoDd:(Tryz.prog.info? 74).map (fun i=>(i.zero,i.size,i.bytes))=some (some (.agg #[.int .i64 0,.int .i64 0,.int .i64 0,.int .i64 0,.int .i64 0,.int .i64 0]),6,48):=by kernel_rfl
theorem elemDd:Elem Tryz.prog kDd 25 74 48:=by
 obtain ⟨i,h1,h2,h3,h4⟩:=info_parts infoDd
 exact ⟨Tryz.underlying25,i,_,h1,h2,h3,h4,rfl⟩
structure Cg (w wr:World) (v0:Value) (base:Nat) (v:Value) (L:List Dd):Prop where
 row:Row kDd 74 wr base v L
 bel:Below base w wr
 size:base≤wr.heap.size
 keep:∀k,k<w.heap.size→v0.ownBlock≠some k→wr.heap[k]?=w.heap[k]?
 own:∀k,v.ownBlock=some k→v0.ownBlock=some k∨w.heap.size≤k
 big:w.heap.size≤wr.heap.size
theorem Cg.grow {w wr X w2:World}{base:Nat}{v0 v v2:Value}{L:List Dd} (C:Cg w wr v0 base v L) (hb:Below wr.heap.size wr X) (L2:List Dd) (hr:Row kDd 74 w2 base v2 L2) (hg:X.grownBy w2 v.ownBlock) (hat:∀j,v2.ownBlock=some j→v.ownBlock=some j∨X.heap.size≤j):Cg w w2 v0 base v2 L2:=
 ⟨hr,below_grown (C.bel.trans (hb.mono C.size)) hg (C.row.below hb) (Nat.le_refl _) (Nat.le_trans C.size hb.size),Nat.le_trans (Nat.le_trans C.size hb.size) hg.size,
  fun k hk hne=>(hg.block k (Nat.lt_of_lt_of_le hk (Nat.le_trans C.big hb.size)) fun e=>by
   rcases C.own k e.symm with h|h
   ·exact hne h
   ·omega).trans ((hb.block k (Nat.lt_of_lt_of_le hk C.big)).trans (C.keep k hk hne)),
  fun j hj=>by
   rcases hat j hj with h|h
   ·exact C.own j h
   ·exact Or.inr (Nat.le_trans (Nat.le_trans C.big hb.size) h),
  Nat.le_trans (Nat.le_trans C.big hb.size) hg.size⟩
theorem cg_start {w:World} {v:Value} {base:Nat} {L:List Dd}(h:Row kDd 74 w base v L) (hs:base≤w.heap.size):Cg w w v base v L:=⟨h,Below.refl _ _,hs,fun _ _ _=>rfl,fun _ h=>Or.inl h,Nat.le_refl _⟩
theorem fo_again{w:World}{g:Nat}(h:w.heap[g]?=some (fo (0,0))) (i:Nat) (hi:i=0∨i=1):∀k:Nat,(w.setCell ⟨g,i,none⟩ (.int .i64 0)).heap[k]?=w.heap[k]?:=by
 intro k
 by_cases e:k=g
 ·subst e
  unfold fo at h
  rw[heap_setCell_same _ _ _ _ _ _ h,h]
  rcases hi with rfl|rfl<;>rfl
 ·exact heap_setCell_other _ _ _ _ (by simpa using e)
end Go.Proofs.YtofcnebekmjdoaaGreatDoor.Bn
