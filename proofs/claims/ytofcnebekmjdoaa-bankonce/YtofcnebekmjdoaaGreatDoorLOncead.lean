import Derived.ChangeKeysEq
import Derived.Test.YtofcnebekmjdoaaGreatDoorLOnceac
set_option maxHeartbeats 4000000
set_option maxRecDepth 100000
namespace Go.Proofs.YtofcnebekmjdoaaGreatDoor.Bn
open Go.RowKit Go.Proofs.YtofcnebekmjdoaaGreatDoor.Gn Go.Maps
theorem playR_ok {ps : List Pa} {shops cap : Int} {l : List Dd} (h : (playR ps shops cap l).2.2.1 = 0) : (setErr ps shops cap).1 = 0 ∧ l.length ≤ 150 ∧ playR ps shops cap l = ((playL (startB ps shops.toNat cap) l).1, (playL (startB ps shops.toNat cap) l).2.map (·.2), (0, 0)) := by
 unfold playR at h ⊢
 by_cases h1 : (setErr ps shops cap).1 ≠ 0
 ·rw [if_pos h1] at h; exact absurd h h1
 rw [if_neg h1] at h ⊢
 by_cases h2 : 150 < l.length
 ·rw [if_pos h2] at h; cases h
 rw [if_neg h2]
 exact ⟨by simpa using h1, by omega, rfl⟩
structure Bw (w Y : World) (g : Nat) (b : Bank) (v : Vs) (cs : List CV) (ds : List DV) : Prop where
 box : Y.heap[g]? = some (bko b v)
 sh : Shows Y b v cs ds
 bel : Below w.heap.size w Y
theorem Bw.below {w Y Y' : World} {g : Nat} {b : Bank} {v : Vs} {cs : List CV} {ds : List DV} (h : Bw w Y g b v cs ds) (hb : Below Y.heap.size Y Y') : Bw w Y' g b v cs ds :=
 ⟨(hb.block _ (lt_of_block h.box)).trans h.box, h.sh.below hb, h.bel.trans (hb.mono h.bel.size)⟩
open Go.RowKit Go.Proofs.YtofcnebekmjdoaaGreatDoor.Gn
structure Sm (w Y : World) (z : Nat) (b : Bank) (v v2 : Vs) (cs cs2 : List CV) (ds ds2 : List DV) : Prop where
 one : Y.heap[z]? = some (bko b v)
 two : Y.heap[z + 1]? = some (bko b v2)
 s1 : Shows Y b v cs ds
 s2 : Shows Y b v2 cs2 ds2
 bel : Below w.heap.size w Y
theorem Sm.below {w Y Y' : World} {z : Nat} {b : Bank} {v v2 : Vs} {cs cs2 : List CV} {ds ds2 : List DV} (h : Sm w Y z b v v2 cs cs2 ds ds2) (hb : Below Y.heap.size Y Y') : Sm w Y' z b v v2 cs cs2 ds ds2 :=
 ⟨(hb.block _ (lt_of_block h.one)).trans h.one, (hb.block _ (lt_of_block h.two)).trans h.two, h.s1.below hb, h.s2.below hb, h.bel.trans (hb.mono h.bel.size)⟩
theorem sm_start {w : World} {b : Bank} {v v2 : Vs} {cs cs2 : List CV} {ds ds2 : List DV} (h1 : Shows w b v cs ds) (h2 : Shows w b v2 cs2 ds2) : Sm w ((w.alloc (bko b v)).alloc (bko b v2)) w.heap.size b v v2 cs cs2 ds ds2 := by
 have e1 := below_alloc w (bko b v)
 have e2 := below_alloc (w.alloc (bko b v)) (bko b v2)
 have hb := e1.trans (e2.mono (by simp))
 exact ⟨(e2.block _ (by simp)).trans (heap_alloc_at _ _ _ rfl), heap_alloc_at _ _ _ (by simp), h1.below hb, h2.below hb, hb⟩
theorem Sm.len {w Y : World} {z : Nat} {b : Bank} {v v2 : Vs} {cs cs2 : List CV} {ds ds2 : List DV} (h : Sm w Y z b v v2 cs cs2 ds ds2) : cs2.length = cs.length ∧ ds2.length = ds.length := by
 have e1 := congrArg List.length (h.s1.csv.trans h.s2.csv.symm)
 have e2 := congrArg List.length (h.s1.dsv.trans h.s2.dsv.symm)
 simp at e1 e2
 exact ⟨e1.symm, e2.symm⟩
theorem ap_slice {α : Type} {K : Kind α} {lab : Lab} {w : World} {a : Option Addr} {cap : Nat} {L : List α} {i : Nat} (h : Ap K lab w (.slice a L.length cap) L i) : Gn.Lies K w a cap L := by
 obtain ⟨a', cap', hv, hl, -⟩ := h
 injection hv with h1 _ h2
 rw [h1, h2]
 exact hl
theorem getD_c {cs : List CV} {k : Nat} (h : k < cs.length) : (cs.map CV.c).getD k zeroC = (cs.getD k zCV).c := by simp [List.getD, h]
def zDV : DV := ⟨[], none, 0, Nat.le_refl _⟩
theorem getD_l {ds : List DV} {k : Nat} (h : k < ds.length) : (ds.map DV.l).getD k [] = (ds.getD k zDV).l := by simp [List.getD, h]
theorem str_of {w : World} {a : Option Addr} {cap : Nat} {L : List Int} (h : Gn.Lies kB w a cap L) : (convert 82 9 (.slice a L.length cap)).run Tryz.prog w = .ok (.string (strOf L)) w :=
 run_string_of Tryz.underlying82 Tryz.underlying5 Tryz.underlying9 h
theorem eq_two (x y : Int) (w : World) : (Op.equalIn 10000 33 (.agg #[.int .i64 x, .int .i64 y]) (.agg #[.int .i64 x, .int .i64 y])).run Tryz.prog w = .ok true w := by
 obtain ⟨i, hi⟩ : ∃ i, Tryz.prog.info? 3 = some i := Option.isSome_iff_exists.1 (by kernel_rfl)
 have hc : Tryz.prog.cellsOf 3 = 1 := by kernel_rfl
 rw [run_equalIn_array w 9999 _ _ Tryz.underlying33 hi, hc]
 have hr : List.range 2 = [0, 1] := rfl
 rw [hr]
 simp [Op.eqItems, part, go_sem]
theorem same_any (b : Bank) (v v2 : Vs) (cs cs2 : List CV) (ds ds2 : List DV) (w : World) (S1 : Shows w b v cs ds) (S2 : Shows w b v2 cs2 ds2) :
  Calls Tryz.prog 22 #[bkv b v, bkv b v2] w fun e w' => e = .returned (.bool true) ∧ Below w.heap.size w w' := by
 have C0 := sm_start S1 S2
 obtain ⟨W0, hW0⟩ : ∃ W, (w.alloc (bko b v)).alloc (bko b v2) = W := ⟨_, rfl⟩
 rw [hW0] at C0
 unfold bko cellsK at hW0
 unfold bkv
 clear S1 S2
 go_enter Tryz.func22, Tryz.ntmps22
 go_upto_region 1 with fail
 try rw [hW0]
 clear hW0
 generalize Value.agg #[.int .i64 b.time, .bool b.down, v.c, v.d, v.a, .int .i64 (b.snd false).sent, v.kp false, .int .i64 (b.snd true).sent, v.kp true, .int .i64 (b.seen false), .int .i64 (b.seen true), v.wy false, v.wy true, .int .i64 b.stand.cap, v.us, v.ad, v.td, v.dy, v.bk] = x0
 generalize Value.agg #[.int .i64 b.time, .bool b.down, v2.c, v2.d, v2.a, .int .i64 (b.snd false).sent, v2.kp false, .int .i64 (b.snd true).sent, v2.kp true, .int .i64 (b.seen false), .int .i64 (b.seen true), v2.wy false, v2.wy true, .int .i64 b.stand.cap, v2.us, v2.ad, v2.td, v2.dy, v2.bk] = x1
 have hlen := C0.len
 obtain ⟨a1, c1, e1, m1⟩ := C0.s1.cards.lies
 obtain ⟨a2, c2, e2, -⟩ := C0.s2.cards.lies
 obtain ⟨a3, c3, e3, m3⟩ := C0.s1.due.lies
 obtain ⟨a4, c4, e4, -⟩ := C0.s2.due.lies
 obtain ⟨a5, c5, e5, m5⟩ := C0.s1.auths.lies
 obtain ⟨a6, c6, e6, -⟩ := C0.s2.auths.lies
 obtain ⟨a7, c7, e7, m7⟩ := C0.s1.days.lies
 obtain ⟨a8, c8, e8, -⟩ := C0.s2.days.lies
 have m1 := m1.len
 have m3 := m3.len
 have m5 := m5.len
 have m7 := m7.len
 unfold maxLen at m1 m3 m5 m7
 rw [hlen.1] at e2
 rw [hlen.2] at e8
 have hSt := St.same_any b.stand.cap v.us v.ad v2.us v2.ad b.stand.used b.stand.adv _ C0.s1.used.lies C0.s1.adv.lies C0.s2.used.lies C0.s2.adv.lies
 unfold St.dv at hSt
 obtain ⟨B0, B1, B2, B3, B4, -, -, -, -, B9, B10, -, -, B13, B14, B15, -, B17, -⟩ := bko_cells C0.one
 obtain ⟨D0, D1, D2, D3, D4, -, -, -, -, D9, D10, -, -, D13, D14, D15, -, D17, -⟩ := bko_cells C0.two
 rw [e1] at B2
 rw [e3] at B3
 rw [e5] at B4
 rw [e7] at B17
 rw [e2] at D2
 rw [e4] at D3
 rw [e6] at D4
 rw [e8] at D17
 replace e1 := hid e1
 replace e2 := hid e2
 replace e3 := hid e3
 replace e4 := hid e4
 replace e5 := hid e5
 replace e6 := hid e6
 replace e7 := hid e7
 replace e8 := hid e8
 replace hlen := hid hlen
 have hE2 := fun (x y : Int) (X : World) => eq_two x y X
 go_upto_region 2 with fail
 refine hSt.mono ?_
 rintro _ W1 ⟨rfl, hb1⟩
 have C1 := C0.below hb1
 clear hSt B0 B1 B2 B3 B4 B9 B10 B13 B14 B15 B17 D0 D1 D2 D3 D4 D9 D10 D13 D14 D15 D17 C0 hb1
 have hTd := Dy.same_any b.today v.td v2.td W1 C1.s1.today.lies C1.s2.today.lies
 obtain ⟨-, -, -, -, -, -, -, -, -, -, -, -, -, -, -, -, B16, -⟩ := bko_cells C1.one
 obtain ⟨-, -, -, -, -, -, -, -, -, -, -, -, -, -, -, -, D16, -⟩ := bko_cells C1.two
 go_upto_region 2 with fail
 refine hTd.mono ?_
 rintro _ W2 ⟨rfl, hb2⟩
 have C2 := C1.below hb2
 clear hTd B16 D16 C1 hb2
 obtain ⟨a9, c9, e9, m9⟩ := C2.s1.book.lies
 obtain ⟨a10, c10, e10, m10⟩ := C2.s2.book.lies
 have hBk := Bk.sameB_any a9 c9 b.book a10 c10 W2 (lies_ents m9) (lies_ents m10)
 obtain ⟨-, -, -, -, -, -, -, -, -, -, -, -, -, -, -, -, -, -, B18⟩ := bko_cells C2.one
 obtain ⟨-, -, -, -, -, -, -, -, -, -, -, -, -, -, -, -, -, -, D18⟩ := bko_cells C2.two
 rw [e9] at B18
 rw [e10] at D18
 clear e9 e10 m9 m10
 go_upto_region 2 with fail
 refine hBk.mono ?_
 rintro _ W3 ⟨rfl, hb3⟩
 have C3 := C2.below hb3
 clear hBk B18 D18 C2 hb3
 obtain ⟨-, -, B2, -⟩ := bko_cells C3.one
 rw [e1.out] at B2
 clear hE2
 go_upto_region 4 with fail
 go_loopw [93] (fun i wr => ∃ k : Nat, k ≤ cs.length ∧ i = .int .i64 k ∧ Sm w wr w.heap.size b v v2 cs cs2 ds ds2) (fun i _ => cs.length - (intOf i).toNat)
 case atStart => exact ⟨0, Nat.zero_le _, rfl, C3⟩
 case round =>
  clear C3 B2
  obtain ⟨k, hk, rfl, C⟩ := hrel
  by_cases hlt : k < cs.length
  ·have hlt' : (k : Int) < cs.length := by omega
   obtain ⟨-, -, B2, -⟩ := bko_cells C.one
   obtain ⟨-, -, D2, -⟩ := bko_cells C.two
   obtain ⟨a, c, e, lc⟩ := C.s1.cards.lies
   obtain ⟨a', c', e', lc'⟩ := C.s2.cards.lies
   rw [hlen.out.1] at e'
   rw [e] at B2
   rw [e'] at D2
   have hlt2 : k < cs2.length := by rw [hlen.out.1]; exact hlt
   obtain ⟨z, off, rfl, zlt, hc⟩ := lc.elem (i := k) (x := cs.getD k zCV) (by simp [List.getD, hlt])
   obtain ⟨z', off', rfl, zlt', hc'⟩ := lc'.elem (i := k) (x := cs2.getD k zCV) (by simp [List.getD, hlt2])
   have hu := lies_uses (ap_slice (C.s1.uses _ (getD_mem' zCV hlt)))
   have hu' := lies_uses (ap_slice (C.s2.uses _ (getD_mem' zCV hlt2)))
   have hcc : (cs2.getD k zCV).c = (cs.getD k zCV).c := by
    rw [← getD_c hlt2, ← getD_c hlt, C.s1.csv, C.s2.csv]
   have hS0 := fun (X : World) (hb : Below wr.heap.size wr X) => sameC_any (cs.getD k zCV).c (cs.getD k zCV).a (cs.getD k zCV).cap (cs2.getD k zCV).a (cs2.getD k zCV).cap X (hu.below hb) (by rw [← hcc]; exact hu'.below hb)
   have f0 := hc 0 _ rfl
   have f1 := hc 1 _ rfl
   have f2 := hc 2 _ rfl
   have f3 := hc 3 _ rfl
   have f4 := hc 4 _ rfl
   have f5 := hc 5 _ rfl
   have g0 := hc' 0 _ rfl
   have g1 := hc' 1 _ rfl
   have g2 := hc' 2 _ rfl
   have g3 := hc' 3 _ rfl
   have g4 := hc' 4 _ rfl
   have g5 := hc' 5 _ rfl
   simp only [Nat.add_zero] at f0 g0
   dsimp only [kC] at f0 f1 f2 f3 f4 f5 g0 g1 g2 g3 g4 g5
   rw [hcc] at g0 g1 g2 g3 g4 g5
   unfold cv at hS0
   generalize (cs.getD k zCV).c = x at *
   generalize (cs.getD k zCV).a = xa at *
   generalize (cs.getD k zCV).cap = xc at *
   generalize (cs2.getD k zCV).a = ya at *
   generalize (cs2.getD k zCV).cap = yc at *
   clear e e' lc lc' hc hc' hu hu' hcc hlt2
   go_upto_region 6 with fail
   refine wp_region_held_drew (S := (fun X => Below wr.heap.size wr X)) (by kernel_rfl) ((Below.refl _ _).drew) (fun hS => ?_)
   refine tk 0 (.pointer (some ⟨w.heap.size, 2, none⟩)) hS ?_ ?_
   ·intro w' _; go_simp
   refine tk 1 (.slice (some ⟨z, off, none⟩) cs.length c) hS ?_ ?_
   ·intro w' hS'; have q0 := (hS'.cell (cell_lt B2)).trans B2; go_simp
   refine tk 2 (.int .i64 (k : Int)) hS ?_ ?_
   ·intro w' _; go_simp
   refine tk 3 (.pointer (some ⟨z, off + k * 6, none⟩)) hS ?_ ?_
   ·intro w' _; go_simp
   try simp only [List.getElem_toArray, List.getElem_cons_zero, List.getElem_cons_succ, Act.put, List.setIfInBounds_toArray, List.set_cons_zero, List.set_cons_succ]
   refine tk 4 (.agg #[.int .i64 x.m, .int .i64 x.h, .int .i64 x.p.t, .int .i64 x.p.c, .int .i64 x.p.s, .slice xa x.u.length xc]) hS ?_ ?_
   ·intro w' hS'; have q0 := (hS'.cell (cell_lt f0)).trans f0; have q1 := (hS'.cell (cell_lt f1)).trans f1; have q2 := (hS'.cell (cell_lt f2)).trans f2; have q3 := (hS'.cell (cell_lt f3)).trans f3; have q4 := (hS'.cell (cell_lt f4)).trans f4; have q5 := (hS'.cell (cell_lt f5)).trans f5; go_simp
   refine tk 5 (.pointer (some ⟨w.heap.size + 1, 2, none⟩)) hS ?_ ?_
   ·intro w' _; go_simp
   refine tk 6 (.slice (some ⟨z', off', none⟩) cs.length c') hS ?_ ?_
   ·intro w' hS'; have q0 := (hS'.cell (cell_lt D2)).trans D2; go_simp
   refine tk 7 (.int .i64 (k : Int)) hS ?_ ?_
   ·intro w' _; go_simp
   try simp only [List.getElem_toArray, List.getElem_cons_zero, List.getElem_cons_succ, Act.put, List.setIfInBounds_toArray, List.set_cons_zero, List.set_cons_succ]
   refine tk 8 (.pointer (some ⟨z', off' + k * 6, none⟩)) hS ?_ ?_
   ·intro w' _; go_simp
   refine tk 9 (.agg #[.int .i64 x.m, .int .i64 x.h, .int .i64 x.p.t, .int .i64 x.p.c, .int .i64 x.p.s, .slice ya x.u.length yc]) hS ?_ ?_
   ·intro w' hS'; have q0 := (hS'.cell (cell_lt g0)).trans g0; have q1 := (hS'.cell (cell_lt g1)).trans g1; have q2 := (hS'.cell (cell_lt g2)).trans g2; have q3 := (hS'.cell (cell_lt g3)).trans g3; have q4 := (hS'.cell (cell_lt g4)).trans g4; have q5 := (hS'.cell (cell_lt g5)).trans g5; go_simp
   try simp only [List.getElem_toArray, List.getElem_cons_zero, List.getElem_cons_succ, Act.put, List.setIfInBounds_toArray, List.set_cons_zero, List.set_cons_succ]
   refine rd 10 (.cons rfl (fun K hK => ?_) .nil)
   go_simp
   refine (hS0 _ ((Below.refl _ _).drew)).mono ?_
   rintro _ w5 ⟨rfl, hb5⟩
   go_simp
   refine hK.out _ _ (((Below.refl _ _).drew).trans hb5) (fun hS => ?_)
   clear hK K
   refine tk 11 (.bool false) hS ?_ ?_
   ·intro w' _; go_simp
   try simp only [List.getElem_toArray, List.getElem_cons_zero, List.getElem_cons_succ, Act.put, List.setIfInBounds_toArray, List.set_cons_zero, List.set_cons_succ]
   refine wpAnyH_done (by kernel_rfl) ?_ _
   have C5 := C.below (((Below.refl _ _).drew).trans hb5)
   go_wp2_with fail
   go_roundw
   case rel => exact ⟨k + 1, by omega, by go_num, C5⟩
   case measure => simp [intOf]; omega
  ·obtain rfl : k = cs.length := by omega
   have hge : ¬ ((cs.length : Int) < cs.length) := by omega
   obtain ⟨-, -, -, B3, -⟩ := bko_cells C.one
   rw [e3.out] at B3
   go_upto_region 10 with fail
   clear B3
   go_loopw [112] (fun i wr => ∃ k : Nat, k ≤ b.due.length ∧ i = .int .i64 k ∧ Sm w wr w.heap.size b v v2 cs cs2 ds ds2) (fun i _ => b.due.length - (intOf i).toNat)
   case atStart => exact ⟨0, Nat.zero_le _, rfl, C⟩
   case round =>
    clear C hge hlt hk
    obtain ⟨k, hk, rfl, C⟩ := hrel
    by_cases hlt : k < b.due.length
    ·have hlt' : (k : Int) < b.due.length := by omega
     obtain ⟨-, -, -, B3, -⟩ := bko_cells C.one
     obtain ⟨-, -, -, D3, -⟩ := bko_cells C.two
     obtain ⟨a, c, e, lc⟩ := C.s1.due.lies
     obtain ⟨a', c', e', lc'⟩ := C.s2.due.lies
     rw [e] at B3
     rw [e'] at D3
     obtain ⟨z, off, rfl, zlt, hc⟩ := lc.elem (i := k) (x := b.due.getD k 0) (by simp [List.getD, hlt])
     obtain ⟨z', off', rfl, zlt', hc'⟩ := lc'.elem (i := k) (x := b.due.getD k 0) (by simp [List.getD, hlt])
     have f0 := hc 0 _ rfl
     have g0 := hc' 0 _ rfl
     dsimp only [kI] at f0 g0
     simp only [Nat.add_zero, Nat.mul_one] at f0 g0
     generalize b.due.getD k 0 = x at *
     clear e e' lc lc' hc hc'
     go_upto_region 12 with fail
     go_quiet (fail)
     go_wp2_with fail
     go_roundw
     case rel => exact ⟨k + 1, by omega, by go_num, C.below (below_drewN (Below.refl _ _) _)⟩
     case measure => simp [intOf]; omega
    ·obtain rfl : k = b.due.length := by omega
     have hge : ¬ ((b.due.length : Int) < b.due.length) := by omega
     obtain ⟨-, -, -, -, B4, -⟩ := bko_cells C.one
     rw [e5.out] at B4
     go_upto_region 16 with fail
     clear B4
     go_loopw [130] (fun i wr => ∃ k : Nat, k ≤ b.auths.length ∧ i = .int .i64 k ∧ Sm w wr w.heap.size b v v2 cs cs2 ds ds2) (fun i _ => b.auths.length - (intOf i).toNat)
     case atStart => exact ⟨0, Nat.zero_le _, rfl, C⟩
     case round =>
      clear C hge hlt hk
      obtain ⟨k, hk, rfl, C⟩ := hrel
      by_cases hlt : k < b.auths.length
      ·have hlt' : (k : Int) < b.auths.length := by omega
       obtain ⟨-, -, -, -, B4, -⟩ := bko_cells C.one
       obtain ⟨-, -, -, -, D4, -⟩ := bko_cells C.two
       obtain ⟨a, c, e, lc⟩ := C.s1.auths.lies
       obtain ⟨a', c', e', lc'⟩ := C.s2.auths.lies
       rw [e] at B4
       rw [e'] at D4
       obtain ⟨z, off, rfl, zlt, hc⟩ := lc.elem (i := k) (x := b.auths.getD k zA) (by simp [List.getD, hlt])
       obtain ⟨z', off', rfl, zlt', hc'⟩ := lc'.elem (i := k) (x := b.auths.getD k zA) (by simp [List.getD, hlt])
       have f0 := hc 0 _ rfl
       have f1 := hc 1 _ rfl
       have f2 := hc 2 _ rfl
       have f3 := hc 3 _ rfl
       have f4 := hc 4 _ rfl
       have f5 := hc 5 _ rfl
       have f6 := hc 6 _ rfl
       have f7 := hc 7 _ rfl
       have g0 := hc' 0 _ rfl
       have g1 := hc' 1 _ rfl
       have g2 := hc' 2 _ rfl
       have g3 := hc' 3 _ rfl
       have g4 := hc' 4 _ rfl
       have g5 := hc' 5 _ rfl
       have g6 := hc' 6 _ rfl
       have g7 := hc' 7 _ rfl
       dsimp only [kAu] at f0 f1 f2 f3 f4 f5 f6 f7 g0 g1 g2 g3 g4 g5 g6 g7
       simp only [Nat.add_zero] at f0 g0
       generalize b.auths.getD k zA = x at *
       obtain ⟨x1, x2, x3, x4, x5, x6, x7, x8⟩ := x
       dsimp only at f0 f1 f2 f3 f4 f5 f6 f7 g0 g1 g2 g3 g4 g5 g6 g7
       clear e e' lc lc' hc hc'
       go_upto_region 18 with fail
       go_quiet (fail)
       go_wp2_with fail
       go_roundw
       case rel => exact ⟨k + 1, by omega, by go_num, C.below (below_drewN (Below.refl _ _) _)⟩
       case measure => simp [intOf]; omega
      ·obtain rfl : k = b.auths.length := by omega
       have hge : ¬ ((b.auths.length : Int) < b.auths.length) := by omega
       obtain ⟨-, -, -, -, -, -, -, -, -, -, -, -, -, -, -, -, -, B17, -⟩ := bko_cells C.one
       rw [e7.out] at B17
       go_upto_region 22 with fail
       clear B17
       go_loopw [148] (fun i wr => ∃ k : Nat, k ≤ ds.length ∧ i = .int .i64 k ∧ Sm w wr w.heap.size b v v2 cs cs2 ds ds2) (fun i _ => ds.length - (intOf i).toNat)
       case atStart => exact ⟨0, Nat.zero_le _, rfl, C⟩
       case round =>
        clear C hge hlt hk
        obtain ⟨k, hk, rfl, C⟩ := hrel
        by_cases hlt : k < ds.length
        ·have hlt' : (k : Int) < ds.length := by omega
         obtain ⟨-, -, -, -, -, -, -, -, -, -, -, -, -, -, -, -, -, B17, -⟩ := bko_cells C.one
         obtain ⟨-, -, -, -, -, -, -, -, -, -, -, -, -, -, -, -, -, D17, -⟩ := bko_cells C.two
         obtain ⟨a, c, e, lc⟩ := C.s1.days.lies
         obtain ⟨a', c', e', lc'⟩ := C.s2.days.lies
         rw [hlen.out.2] at e'
         rw [e] at B17
         rw [e'] at D17
         have hlt2 : k < ds2.length := by rw [hlen.out.2]; exact hlt
         obtain ⟨z, off, rfl, zlt, hc⟩ := lc.elem (i := k) (x := ds.getD k zDV) (by simp [List.getD, hlt])
         obtain ⟨z', off', rfl, zlt', hc'⟩ := lc'.elem (i := k) (x := ds2.getD k zDV) (by simp [List.getD, hlt2])
         have hll : (ds2.getD k zDV).l = (ds.getD k zDV).l := by
          rw [← getD_l hlt2, ← getD_l hlt, C.s1.dsv, C.s2.dsv]
         have s1 := fun (X : World) (hX : Below wr.heap.size wr X) => str_of (ap_slice ((C.below hX).s1.files _ (getD_mem' zDV hlt)))
         have s2 := fun (X : World) (hX : Below wr.heap.size wr X) => str_of (ap_slice ((C.below hX).s2.files _ (getD_mem' zDV hlt2)))
         have f0 := hc 0 _ rfl
         have g0 := hc' 0 _ rfl
         dsimp only [kD] at f0 g0
         simp only [Nat.add_zero, Nat.mul_one] at f0 g0
         rw [hll] at g0
         simp only [hll] at s2
         generalize strOf (ds.getD k zDV).l = st at *
         generalize (ds.getD k zDV).l.length = ln at *
         generalize (ds.getD k zDV).a = xa at *
         generalize (ds.getD k zDV).cap = xc at *
         generalize (ds2.getD k zDV).a = ya at *
         generalize (ds2.getD k zDV).cap = yc at *
         clear e e' lc lc' hc hc' hll hlt2
         go_upto_region 24 with fail
         refine wp_region_held_drew (S := (fun X => Below wr.heap.size wr X)) (by kernel_rfl) ((Below.refl _ _).drew) (fun hS => ?_)
         refine tk 0 (.pointer (some ⟨w.heap.size, 17, none⟩)) hS ?_ ?_
         ·intro w' _; go_simp
         refine tk 1 (.slice (some ⟨z, off, none⟩) ds.length c) hS ?_ ?_
         ·intro w' hS'; have q0 := (hS'.cell (cell_lt B17)).trans B17; go_simp
         refine tk 2 (.int .i64 (k : Int)) hS ?_ ?_
         ·intro w' _; go_simp
         refine tk 3 (.pointer (some ⟨z, off + k, none⟩)) hS ?_ ?_
         ·intro w' _; go_simp
         try simp only [List.getElem_toArray, List.getElem_cons_zero, List.getElem_cons_succ, Act.put, List.setIfInBounds_toArray, List.set_cons_zero, List.set_cons_succ]
         refine tk 4 (.slice xa ln xc) hS ?_ ?_
         ·intro w' hS'; have q0 := (hS'.cell (cell_lt f0)).trans f0; go_simp
         refine tk 5 (.string st) hS ?_ ?_
         ·intro w' hS'; have q0 := s1 _ hS'; go_simp
         refine tk 6 (.pointer (some ⟨w.heap.size + 1, 17, none⟩)) hS ?_ ?_
         ·intro w' _; go_simp
         refine tk 7 (.slice (some ⟨z', off', none⟩) ds.length c') hS ?_ ?_
         ·intro w' hS'; have q0 := (hS'.cell (cell_lt D17)).trans D17; go_simp
         try simp only [List.getElem_toArray, List.getElem_cons_zero, List.getElem_cons_succ, Act.put, List.setIfInBounds_toArray, List.set_cons_zero, List.set_cons_succ]
         refine tk 8 (.int .i64 (k : Int)) hS ?_ ?_
         ·intro w' _; go_simp
         refine tk 9 (.pointer (some ⟨z', off' + k, none⟩)) hS ?_ ?_
         ·intro w' _; go_simp
         refine tk 10 (.slice ya ln yc) hS ?_ ?_
         ·intro w' hS'; have q0 := (hS'.cell (cell_lt g0)).trans g0; go_simp
         refine tk 11 (.string st) hS ?_ ?_
         ·intro w' hS'; have q0 := s2 _ hS'; go_simp
         try simp only [List.getElem_toArray, List.getElem_cons_zero, List.getElem_cons_succ, Act.put, List.setIfInBounds_toArray, List.set_cons_zero, List.set_cons_succ]
         refine tk 12 (.bool false) hS ?_ ?_
         ·intro w' _; go_simp
         try simp only [List.getElem_toArray, List.getElem_cons_zero, List.getElem_cons_succ, Act.put, List.setIfInBounds_toArray, List.set_cons_zero, List.set_cons_succ]
         refine wpAnyH_done (by kernel_rfl) ?_ _
         go_wp2_with fail
         go_roundw
         case rel => exact ⟨k + 1, by omega, by go_num, C.below ((Below.refl _ _).drew)⟩
         case measure => simp [intOf]; omega
        ·obtain rfl : k = ds.length := by omega
         have hge : ¬ ((ds.length : Int) < ds.length) := by omega
         go_upto_region 28 with fail
         go_loopw [165] (fun i wr => ∃ k : Nat, k ≤ 2 ∧ i = .int .i64 k ∧ Sm w wr w.heap.size b v v2 cs cs2 ds ds2) (fun i _ => 2 - (intOf i).toNat)
         case atStart => exact ⟨0, Nat.zero_le _, rfl, C⟩
         case round =>
          clear C hge hlt hk
          obtain ⟨k, hk, rfl, C⟩ := hrel
          by_cases hlt : k < 2
          ·obtain rfl | rfl : k = 0 ∨ k = 1 := by omega
           ·obtain ⟨-, -, -, -, -, B5, B6, -, -, -, -, B11, -⟩ := bko_cells C.one
            obtain ⟨-, -, -, -, -, D5, D6, -, -, -, -, D11, -⟩ := bko_cells C.two
            obtain ⟨a, c, e, lc⟩ := (C.s1.kept false).lies
            obtain ⟨a', c', e', lc'⟩ := (C.s2.kept false).lies
            obtain ⟨u, d, ew, lw⟩ := (C.s1.ways false).lies
            obtain ⟨u', d', ew', lw'⟩ := (C.s2.ways false).lies
            rw [e] at B6
            rw [e'] at D6
            rw [ew] at B11
            rw [ew'] at D11
            have hmw := lw.len
            unfold maxLen at hmw
            have hS0 := fun (X : World) (hb : Below wr.heap.size wr X) => Po.same_any (b.snd false) a c a' c' X (lc.below hb) (lc'.below hb)
            unfold Po.sv at hS0
            replace ew := hid ew
            replace ew' := hid ew'
            clear e e' lc lc' lw lw'
            go_upto_region 30 with fail
            refine wp_region_held_drew (S := (fun X => Below wr.heap.size wr X)) (by kernel_rfl) ((Below.refl _ _).drew) (fun hS => ?_)
            refine tk 0 (.int .i64 0) hS ?_ ?_
            ·intro w' _; go_simp
            refine tk 1 (.pointer (some ⟨w.heap.size, 5, none⟩)) hS ?_ ?_
            ·intro w' _; go_simp
            refine tk 2 (.pointer (some ⟨w.heap.size, 5, none⟩)) hS ?_ ?_
            ·intro w' _; go_simp
            refine tk 3 (.agg #[.int .i64 (b.snd false).sent, .slice a (b.snd false).kept.length c]) hS ?_ ?_
            ·intro w' hS'; have q0 := (hS'.cell (cell_lt B5)).trans B5; have q1 := (hS'.cell (cell_lt B6)).trans B6; go_simp
            try simp only [List.getElem_toArray, List.getElem_cons_zero, List.getElem_cons_succ, Act.put, List.setIfInBounds_toArray, List.set_cons_zero, List.set_cons_succ]
            refine tk 4 (.int .i64 0) hS ?_ ?_
            ·intro w' _; go_simp
            refine tk 5 (.pointer (some ⟨w.heap.size + 1, 5, none⟩)) hS ?_ ?_
            ·intro w' _; go_simp
            refine tk 6 (.pointer (some ⟨w.heap.size + 1, 5, none⟩)) hS ?_ ?_
            ·intro w' _; go_simp
            refine tk 7 (.agg #[.int .i64 (b.snd false).sent, .slice a' (b.snd false).kept.length c']) hS ?_ ?_
            ·intro w' hS'; have q0 := (hS'.cell (cell_lt D5)).trans D5; have q1 := (hS'.cell (cell_lt D6)).trans D6; go_simp
            try simp only [List.getElem_toArray, List.getElem_cons_zero, List.getElem_cons_succ, Act.put, List.setIfInBounds_toArray, List.set_cons_zero, List.set_cons_succ]
            try simp only [List.getElem_toArray, List.getElem_cons_zero, List.getElem_cons_succ, Act.put, List.setIfInBounds_toArray, List.set_cons_zero, List.set_cons_succ]
            refine rd 8 (.cons rfl (fun K hK => ?_) .nil)
            go_simp
            refine (hS0 _ ((Below.refl _ _).drew)).mono ?_
            rintro _ w5 ⟨rfl, hb5⟩
            go_simp
            refine hK.out _ _ (((Below.refl _ _).drew).trans hb5) (fun hS => ?_)
            clear hK K
            refine tk 9 (.bool false) hS ?_ ?_
            ·intro w' _; go_simp
            refine tk 10 (.bool false) hS ?_ ?_
            ·intro w' _; go_simp
            refine tk 11 (.int .i64 0) hS ?_ ?_
            ·intro w' _; go_simp
            refine tk 12 (.pointer (some ⟨w.heap.size, 11, none⟩)) hS ?_ ?_
            ·intro w' _; go_simp
            try simp only [List.getElem_toArray, List.getElem_cons_zero, List.getElem_cons_succ, Act.put, List.setIfInBounds_toArray, List.set_cons_zero, List.set_cons_succ]
            refine tk 13 (.pointer (some ⟨w.heap.size, 11, none⟩)) hS ?_ ?_
            ·intro w' _; go_simp
            refine tk 14 (.slice u (b.way false).length d) hS ?_ ?_
            ·intro w' hS'; have q0 := (hS'.cell (cell_lt B11)).trans B11; go_simp
            refine tk 15 (.int .i64 (b.way false).length) hS ?_ ?_
            ·intro w' _; go_simp
            refine tk 16 (.int .i64 0) hS ?_ ?_
            ·intro w' _; go_simp
            try simp only [List.getElem_toArray, List.getElem_cons_zero, List.getElem_cons_succ, Act.put, List.setIfInBounds_toArray, List.set_cons_zero, List.set_cons_succ]
            refine tk 17 (.pointer (some ⟨w.heap.size + 1, 11, none⟩)) hS ?_ ?_
            ·intro w' _; go_simp
            refine tk 18 (.pointer (some ⟨w.heap.size + 1, 11, none⟩)) hS ?_ ?_
            ·intro w' _; go_simp
            refine tk 19 (.slice u' (b.way false).length d') hS ?_ ?_
            ·intro w' hS'; have q0 := (hS'.cell (cell_lt D11)).trans D11; go_simp
            refine tk 20 (.int .i64 (b.way false).length) hS ?_ ?_
            ·intro w' _; go_simp
            try simp only [List.getElem_toArray, List.getElem_cons_zero, List.getElem_cons_succ, Act.put, List.setIfInBounds_toArray, List.set_cons_zero, List.set_cons_succ]
            refine tk 21 (.bool false) hS ?_ ?_
            ·intro w' _; go_simp
            refine tk 22 (.bool false) hS ?_ ?_
            ·intro w' _; go_simp
            try simp only [List.getElem_toArray, List.getElem_cons_zero, List.getElem_cons_succ, Act.put, List.setIfInBounds_toArray, List.set_cons_zero, List.set_cons_succ]
            refine wpAnyH_done (by kernel_rfl) ?_ _
            have C5 := C.below (((Below.refl _ _).drew).trans hb5)
            obtain ⟨-, -, -, -, -, -, -, -, -, -, -, q1, -⟩ := bko_cells C5.one
            rw [ew.out] at q1
            clear B5 B6 B11 D5 D6 D11 hS0 C
            go_upto_region 33 with fail
            go_loopw [196] (fun i wr => ∃ k : Nat, k ≤ (b.way false).length ∧ i = .int .i64 k ∧ Sm w wr w.heap.size b v v2 cs cs2 ds ds2) (fun i _ => (b.way false).length - (intOf i).toNat)
            case atStart => exact ⟨0, Nat.zero_le _, rfl, C5⟩
            case round =>
             clear C5 q1 hb5
             obtain ⟨m, hm, rfl, C⟩ := hrel
             by_cases hml : m < (b.way false).length
             ·have hml' : (m : Int) < (b.way false).length := by omega
              obtain ⟨-, -, -, -, -, -, -, -, -, -, -, B11, -⟩ := bko_cells C.one
              obtain ⟨-, -, -, -, -, -, -, -, -, -, -, D11, -⟩ := bko_cells C.two
              obtain ⟨a, c, e, lc⟩ := (C.s1.ways false).lies
              obtain ⟨a', c', e', lc'⟩ := (C.s2.ways false).lies
              rw [e] at B11
              rw [e'] at D11
              obtain ⟨z, off, rfl, zlt, hc⟩ := lc.elem (i := m) (x := (b.way false).getD m zPk) (by simp [List.getD, hml])
              obtain ⟨z', off', rfl, zlt', hc'⟩ := lc'.elem (i := m) (x := (b.way false).getD m zPk) (by simp [List.getD, hml])
              have f0 := hc 0 _ rfl
              have f1 := hc 1 _ rfl
              have f2 := hc 2 _ rfl
              have f3 := hc 3 _ rfl
              have f4 := hc 4 _ rfl
              have g0 := hc' 0 _ rfl
              have g1 := hc' 1 _ rfl
              have g2 := hc' 2 _ rfl
              have g3 := hc' 3 _ rfl
              have g4 := hc' 4 _ rfl
              dsimp only [kP] at f0 f1 f2 f3 f4 g0 g1 g2 g3 g4
              simp only [Nat.add_zero] at f0 g0
              generalize (b.way false).getD m zPk = x at *
              obtain ⟨⟨x1, x2, x3, x4⟩, x5⟩ := x
              dsimp only at f0 f1 f2 f3 f4 g0 g1 g2 g3 g4
              clear e e' lc lc' hc hc'
              go_upto_region 35 with fail
              go_quiet (fail)
              go_wp2_with fail
              go_roundw
              case rel => exact ⟨m + 1, by omega, by go_num, C.below (below_drewN (Below.refl _ _) _)⟩
              case measure => simp [intOf]; omega
             ·obtain rfl : m = (b.way false).length := by omega
              have hge : ¬ (((b.way false).length : Int) < (b.way false).length) := by omega
              go_wp2_with fail
              go_roundw
              case rel => exact ⟨0 + 1, by omega, by go_num, C⟩
              case measure => simp [intOf]
           ·obtain ⟨-, -, -, -, -, -, -, B7, B8, -, -, -, B12, -⟩ := bko_cells C.one
            obtain ⟨-, -, -, -, -, -, -, D7, D8, -, -, -, D12, -⟩ := bko_cells C.two
            obtain ⟨a, c, e, lc⟩ := (C.s1.kept true).lies
            obtain ⟨a', c', e', lc'⟩ := (C.s2.kept true).lies
            obtain ⟨u, d, ew, lw⟩ := (C.s1.ways true).lies
            obtain ⟨u', d', ew', lw'⟩ := (C.s2.ways true).lies
            rw [e] at B8
            rw [e'] at D8
            rw [ew] at B12
            rw [ew'] at D12
            have hmw := lw.len
            unfold maxLen at hmw
            have hS0 := fun (X : World) (hb : Below wr.heap.size wr X) => Po.same_any (b.snd true) a c a' c' X (lc.below hb) (lc'.below hb)
            unfold Po.sv at hS0
            replace ew := hid ew
            replace ew' := hid ew'
            clear e e' lc lc' lw lw'
            go_upto_region 30 with fail
            refine wp_region_held_drew (S := (fun X => Below wr.heap.size wr X)) (by kernel_rfl) ((Below.refl _ _).drew) (fun hS => ?_)
            refine tk 0 (.int .i64 1) hS ?_ ?_
            ·intro w' _; go_simp
            refine tk 1 (.pointer (some ⟨w.heap.size, 5, none⟩)) hS ?_ ?_
            ·intro w' _; go_simp
            refine tk 2 (.pointer (some ⟨w.heap.size, 7, none⟩)) hS ?_ ?_
            ·intro w' _; go_simp
            refine tk 3 (.agg #[.int .i64 (b.snd true).sent, .slice a (b.snd true).kept.length c]) hS ?_ ?_
            ·intro w' hS'; have q0 := (hS'.cell (cell_lt B7)).trans B7; have q1 := (hS'.cell (cell_lt B8)).trans B8; go_simp
            try simp only [List.getElem_toArray, List.getElem_cons_zero, List.getElem_cons_succ, Act.put, List.setIfInBounds_toArray, List.set_cons_zero, List.set_cons_succ]
            refine tk 4 (.int .i64 1) hS ?_ ?_
            ·intro w' _; go_simp
            refine tk 5 (.pointer (some ⟨w.heap.size + 1, 5, none⟩)) hS ?_ ?_
            ·intro w' _; go_simp
            refine tk 6 (.pointer (some ⟨w.heap.size + 1, 7, none⟩)) hS ?_ ?_
            ·intro w' _; go_simp
            refine tk 7 (.agg #[.int .i64 (b.snd true).sent, .slice a' (b.snd true).kept.length c']) hS ?_ ?_
            ·intro w' hS'; have q0 := (hS'.cell (cell_lt D7)).trans D7; have q1 := (hS'.cell (cell_lt D8)).trans D8; go_simp
            try simp only [List.getElem_toArray, List.getElem_cons_zero, List.getElem_cons_succ, Act.put, List.setIfInBounds_toArray, List.set_cons_zero, List.set_cons_succ]
            try simp only [List.getElem_toArray, List.getElem_cons_zero, List.getElem_cons_succ, Act.put, List.setIfInBounds_toArray, List.set_cons_zero, List.set_cons_succ]
            refine rd 8 (.cons rfl (fun K hK => ?_) .nil)
            go_simp
            refine (hS0 _ ((Below.refl _ _).drew)).mono ?_
            rintro _ w5 ⟨rfl, hb5⟩
            go_simp
            refine hK.out _ _ (((Below.refl _ _).drew).trans hb5) (fun hS => ?_)
            clear hK K
            refine tk 9 (.bool false) hS ?_ ?_
            ·intro w' _; go_simp
            refine tk 10 (.bool false) hS ?_ ?_
            ·intro w' _; go_simp
            refine tk 11 (.int .i64 1) hS ?_ ?_
            ·intro w' _; go_simp
            refine tk 12 (.pointer (some ⟨w.heap.size, 11, none⟩)) hS ?_ ?_
            ·intro w' _; go_simp
            try simp only [List.getElem_toArray, List.getElem_cons_zero, List.getElem_cons_succ, Act.put, List.setIfInBounds_toArray, List.set_cons_zero, List.set_cons_succ]
            refine tk 13 (.pointer (some ⟨w.heap.size, 12, none⟩)) hS ?_ ?_
            ·intro w' _; go_simp
            refine tk 14 (.slice u (b.way true).length d) hS ?_ ?_
            ·intro w' hS'; have q0 := (hS'.cell (cell_lt B12)).trans B12; go_simp
            refine tk 15 (.int .i64 (b.way true).length) hS ?_ ?_
            ·intro w' _; go_simp
            refine tk 16 (.int .i64 1) hS ?_ ?_
            ·intro w' _; go_simp
            try simp only [List.getElem_toArray, List.getElem_cons_zero, List.getElem_cons_succ, Act.put, List.setIfInBounds_toArray, List.set_cons_zero, List.set_cons_succ]
            refine tk 17 (.pointer (some ⟨w.heap.size + 1, 11, none⟩)) hS ?_ ?_
            ·intro w' _; go_simp
            refine tk 18 (.pointer (some ⟨w.heap.size + 1, 12, none⟩)) hS ?_ ?_
            ·intro w' _; go_simp
            refine tk 19 (.slice u' (b.way true).length d') hS ?_ ?_
            ·intro w' hS'; have q0 := (hS'.cell (cell_lt D12)).trans D12; go_simp
            refine tk 20 (.int .i64 (b.way true).length) hS ?_ ?_
            ·intro w' _; go_simp
            try simp only [List.getElem_toArray, List.getElem_cons_zero, List.getElem_cons_succ, Act.put, List.setIfInBounds_toArray, List.set_cons_zero, List.set_cons_succ]
            refine tk 21 (.bool false) hS ?_ ?_
            ·intro w' _; go_simp
            refine tk 22 (.bool false) hS ?_ ?_
            ·intro w' _; go_simp
            try simp only [List.getElem_toArray, List.getElem_cons_zero, List.getElem_cons_succ, Act.put, List.setIfInBounds_toArray, List.set_cons_zero, List.set_cons_succ]
            refine wpAnyH_done (by kernel_rfl) ?_ _
            have C5 := C.below (((Below.refl _ _).drew).trans hb5)
            obtain ⟨-, -, -, -, -, -, -, -, -, -, -, -, q1, -⟩ := bko_cells C5.one
            rw [ew.out] at q1
            clear B7 B8 B12 D7 D8 D12 hS0 C
            go_upto_region 33 with fail
            go_loopw [196] (fun i wr => ∃ k : Nat, k ≤ (b.way true).length ∧ i = .int .i64 k ∧ Sm w wr w.heap.size b v v2 cs cs2 ds ds2) (fun i _ => (b.way true).length - (intOf i).toNat)
            case atStart => exact ⟨0, Nat.zero_le _, rfl, C5⟩
            case round =>
             clear C5 q1 hb5
             obtain ⟨m, hm, rfl, C⟩ := hrel
             by_cases hml : m < (b.way true).length
             ·have hml' : (m : Int) < (b.way true).length := by omega
              obtain ⟨-, -, -, -, -, -, -, -, -, -, -, -, B12, -⟩ := bko_cells C.one
              obtain ⟨-, -, -, -, -, -, -, -, -, -, -, -, D12, -⟩ := bko_cells C.two
              obtain ⟨a, c, e, lc⟩ := (C.s1.ways true).lies
              obtain ⟨a', c', e', lc'⟩ := (C.s2.ways true).lies
              rw [e] at B12
              rw [e'] at D12
              obtain ⟨z, off, rfl, zlt, hc⟩ := lc.elem (i := m) (x := (b.way true).getD m zPk) (by simp [List.getD, hml])
              obtain ⟨z', off', rfl, zlt', hc'⟩ := lc'.elem (i := m) (x := (b.way true).getD m zPk) (by simp [List.getD, hml])
              have f0 := hc 0 _ rfl
              have f1 := hc 1 _ rfl
              have f2 := hc 2 _ rfl
              have f3 := hc 3 _ rfl
              have f4 := hc 4 _ rfl
              have g0 := hc' 0 _ rfl
              have g1 := hc' 1 _ rfl
              have g2 := hc' 2 _ rfl
              have g3 := hc' 3 _ rfl
              have g4 := hc' 4 _ rfl
              dsimp only [kP] at f0 f1 f2 f3 f4 g0 g1 g2 g3 g4
              simp only [Nat.add_zero] at f0 g0
              generalize (b.way true).getD m zPk = x at *
              obtain ⟨⟨x1, x2, x3, x4⟩, x5⟩ := x
              dsimp only at f0 f1 f2 f3 f4 g0 g1 g2 g3 g4
              clear e e' lc lc' hc hc'
              go_upto_region 35 with fail
              go_quiet (fail)
              go_wp2_with fail
              go_roundw
              case rel => exact ⟨m + 1, by omega, by go_num, C.below (below_drewN (Below.refl _ _) _)⟩
              case measure => simp [intOf]; omega
             ·obtain rfl : m = (b.way true).length := by omega
              have hge : ¬ (((b.way true).length : Int) < (b.way true).length) := by omega
              go_wp2_with fail
              go_roundw
              case rel => exact ⟨1 + 1, by omega, by go_num, C⟩
              case measure => simp [intOf]
          ·obtain rfl : k = 2 := by omega
           have hbf := C.bel
           go_wp2_with fail
           exact bodyPost_ret (results_tmp Tryz.results22 _ _ _) rfl ⟨rfl, hbf⟩
end Go.Proofs.YtofcnebekmjdoaaGreatDoor.Bn
