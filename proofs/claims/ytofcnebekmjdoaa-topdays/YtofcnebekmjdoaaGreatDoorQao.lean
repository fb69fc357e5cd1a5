import Derived.Test.YtofcnebekmjdoaaGreatDoorQan
set_option maxHeartbeats 4000000
set_option maxRecDepth 100000
namespace Go.Proofs.YtofcnebekmjdoaaGreatDoor.Dy
open RowKit Gn
def AtC {α : Type} (K : Am α) (W : World) (v : Value) (L : List α) : Prop := ∃ a cap, v = .slice a L.length cap ∧ Lies K W a cap L ∧ L.length ≤ cap
theorem AtC.at {α : Type} {K : Am α} {W : World} {v : Value} {L : List α} (h : AtC K W v L) : At K W v L := by
 obtain ⟨a, cap, rfl, hl, -⟩ := h
 exact ⟨a, cap, rfl, hl⟩
theorem AtC.below {α : Type} {K : Am α} {W W' : World} {v : Value} {L : List α} (h : AtC K W v L) (hb : Below W.heap.size W W') : AtC K W' v L := by
 obtain ⟨a, cap, rfl, hl, hc⟩ := h
 exact ⟨a, cap, rfl, hl.below hb, hc⟩
theorem lies_part {w : World} {g off cap c : Nat} {L : List Int} (h : Lies kB w (some ⟨g, off, none⟩) cap L) {lo m : Nat} (hm : lo + m ≤ L.length) : Lies kB w (some ⟨g, off + lo, none⟩) c ((L.drop lo).take m) := by
 refine ⟨by have := h.len; simp; omega, (fun h => by cases h), ?_⟩
 rcases h.at' with h0 | ⟨b, o, ha, hlt, hc⟩
 ·subst h0; simp
 ·cases ha
  refine Or.inr ⟨_, _, rfl, hlt, fun j u hj => ?_⟩
  rw [kB_flat] at hj
  have hj2 : ((L.drop lo).take m)[j]? = (L[lo + j]?) ∧ lo + j < L.length := by
   have hjl : j < (((L.drop lo).take m).map fun x => Value.int .u8 x).length := (List.getElem?_eq_some_iff.1 hj).1
   simp at hjl
   refine ⟨?_, by omega⟩
   rw [List.getElem?_take, if_pos (by omega), List.getElem?_drop]
  rw [List.getElem?_map, hj2.1] at hj
  have := hc (lo + j) u (by rw [kB_flat, List.getElem?_map]; exact hj)
  rw [Nat.add_assoc]; exact this
theorem part3 {b : List Int} {q : Nat} (h : q + 6 ≤ b.length) : (b.drop (q + 3)).take 3 = [b.getD (q + 3) 0, b.getD (q + 4) 0, b.getD (q + 5) 0] := by
 apply List.ext_getElem?
 intro i
 rw [List.getElem?_take, List.getElem?_drop]
 by_cases hi : i < 3
 ·rw [if_pos hi]
  obtain rfl | rfl | rfl : i = 0 ∨ i = 1 ∨ i = 2 := by omega
  ·simp [List.getD, show q + 3 < b.length by omega]
  ·simp [List.getD, show q + 3 + 1 < b.length by omega]
  ·simp [List.getD, show q + 3 + 2 < b.length by omega]
 ·rw [if_neg hi, List.getElem?_eq_none (by simp; omega)]
def recs0 (b : List Int) (n : Nat) : List Rc := (List.range n).map fun i => decAt b (6 * i)
theorem recs0_length (b : List Int) (n : Nat) : (recs0 b n).length = n := by simp [recs0]
theorem recs0_succ (b : List Int) (n : Nat) : recs0 b (n + 1) = recs0 b n ++ [decAt b (6 * n)] := by simp [recs0, List.range_succ]
theorem records_any (b : List Int) (n : Nat) (v : Value) (w : World) (h : AtC kB w v b) (hb : Byt b) (hn : b.length = 6 * n) (hn2 : n ≤ 1000) :
    Calls Tryz.prog 69 #[v] w fun e w' => ∃ v', e = .returned v' ∧ Row kR 79 w' w.heap.size v' (recs0 b n) ∧ Below w.heap.size w w' := by
  obtain ⟨a, c, rfl, hl, hcap⟩ := h
  go_enter Tryz.func69, Tryz.ntmps69
  go_wp2
  go_loopw [4, 3] (fun i u wr => ∃ k : Nat, k ≤ n ∧ i = .int .i64 ((6 * k : Nat) : Int) ∧ Row kR 79 wr w.heap.size u (recs0 b k) ∧ Below w.heap.size w wr) (fun i _ _ => 6 * n - (intOf i).toNat)
  case atStart => exact ⟨0, Nat.zero_le _, rfl, .nil, Below.refl _ _⟩
  case round =>
    obtain ⟨k, hk, rfl, hrow, hbel⟩ := hrel
    by_cases hlt : k < n
    · obtain ⟨q, hq⟩ : ∃ q, q = 6 * k := ⟨_, rfl⟩
      rw [← hq]
      have Hq := hid hq
      have hq6 : q + 6 ≤ b.length := by omega
      have hq6' : (q : Int) + 6 ≤ b.length := by omega
      have hq7 : (q : Int) < b.length := by omega
      have hqc : (q : Int) + 6 ≤ c := by omega
      obtain ⟨a2, c2, rfl, hrow2, -⟩ := row_at hrow
      have hlw := hl.below hbel
      obtain ⟨g, off, rfl, hg0, f0⟩ := byte_cell hl (i := q) (by omega)
      clear hq
      obtain ⟨g', off', hgo, -, f1⟩ := byte_cell hl (i := q + 1) (by omega)
      cases hgo
      obtain ⟨g', off', hgo, -, f2⟩ := byte_cell hl (i := q + 2) (by omega)
      cases hgo
      have hg : g < wr.heap.size := Nat.lt_of_lt_of_le hg0 hbel.size
      have hcells : ∀ X : World, Below w.heap.size w X → X.cell? ⟨g, off + q, none⟩ = some (.int .u8 (b.getD q 0)) ∧ X.cell? ⟨g, off + q + 1, none⟩ = some (.int .u8 (b.getD (q + 1) 0)) ∧ X.cell? ⟨g, off + q + 2, none⟩ = some (.int .u8 (b.getD (q + 2) 0)) := fun X hX =>
        ⟨(hX.cell (p := ⟨g, _, none⟩) hg0).trans f0, (hX.cell (p := ⟨g, _, none⟩) hg0).trans f1, (hX.cell (p := ⟨g, _, none⟩) hg0).trans f2⟩
      obtain ⟨e0, e1, e2⟩ := hcells wr hbel
      clear f0 f1 f2
      have y0 := hb.at q
      have y1 := hb.at (q + 1)
      have y2 := hb.at (q + 2)
      have y3 := hb.at (q + 3)
      have y4 := hb.at (q + 4)
      have y5 := hb.at (q + 5)
      have hpart : (b.drop (q + 3)).take 3 = [b.getD (q + 3) 0, b.getD (q + 4) 0, b.getD (q + 5) 0] := part3 (by omega)
      have hl3 : Lies kB wr (some ⟨g, off + q + 3, none⟩) (c - q - 3) [b.getD (q + 3) 0, b.getD (q + 4) 0, b.getD (q + 5) 0] := by
        rw [← hpart, Nat.add_assoc off q 3]; exact lies_part hlw (by omega)
      have hl3' : ∀ X : World, X.heap = wr.heap → At kB X (.slice (some ⟨g, off + q + 3, none⟩) 3 (c - q - 3)) [b.getD (q + 3) 0, b.getD (q + 4) 0, b.getD (q + 5) 0] := fun X hX => ⟨_, _, rfl, hl3.keep (by rw [hX]; exact Nat.le_refl _) fun _ _ _ => by rw [hX]⟩
      obtain ⟨x, hx⟩ : ∃ x, Hid (x = 65536 * b.getD (q + 3) 0 + 256 * b.getD (q + 4) 0 + b.getD (q + 5) 0) := ⟨_, rfl⟩
      have hread : ∀ X : World, X.heap = wr.heap → Calls Tryz.prog 71 #[.slice (some ⟨g, off + q + 3, none⟩) 3 (c - q - 3)] X fun e w' => e = .returned (.int .i64 x) ∧ w' = X := fun X hX => by
        have := read_any _ _ X (hl3' X hX) (fun z hz => by simp at hz; rcases hz with rfl | rfl | rfl <;> assumption) (by simp)
        have hxe : ([b.getD (q + 3) 0, b.getD (q + 4) 0, b.getD (q + 5) 0].foldl (fun n x => n * 256 + x) 0) = x := by rw [hx.out]; simp; omega
        rw [hxe] at this
        exact this
      have hrec : Hid (decAt b q = ⟨b.getD q 0, b.getD (q + 1) 0, b.getD (q + 2) 0, x⟩) := by unfold decAt; rw [hx.out]; exact hid rfl
      have hsucc : Hid (recs0 b (k + 1) = recs0 b k ++ [⟨b.getD q 0, b.getD (q + 1) 0, b.getD (q + 2) 0, x⟩]) := by rw [recs0_succ, ← Hq.out, hrec.out]; exact hid rfl
      have hlen : (recs0 b k).length ≤ 1000 := by rw [recs0_length]; omega
      have hnn : k + 1 ≤ n := by omega
      have Hn := hid hn
      have hbl : b.length ≤ 6000 := by omega
      have hql : q ≤ 6000 := by omega
      have z0 : IntKind.i64.wrap (b.getD q 0) = b.getD q 0 := wrap64' (by omega) (by omega)
      have z1 : IntKind.i64.wrap (b.getD (q + 1) 0) = b.getD (q + 1) 0 := wrap64' (by omega) (by omega)
      have z2 : IntKind.i64.wrap (b.getD (q + 2) 0) = b.getD (q + 2) 0 := wrap64' (by omega) (by omega)
      clear hl3 hl3' hpart hlw hl hrow y3 y4 y5 hx hrec hn
      generalize b.getD q 0 = x0 at *
      generalize b.getD (q + 1) 0 = x1 at *
      generalize b.getD (q + 2) 0 = x2 at *
      generalize recs0 b k = C at *
      go_upto_region 6 with fail
      rw [show q + 6 - q = 6 by omega]
      have hc3 : ¬ (c - q = 3) := by omega
      have hone0 : Lies kR (wr.alloc (.cells #[.int .i64 x0, .int .i64 x1, .int .i64 x2, .int .i64 x] 79)) (some ⟨wr.heap.size, 0, none⟩) 1 [⟨x0, x1, x2, x⟩] := by
        refine Da (heap_alloc_at _ _ _ rfl) ?_ 1
        rfl
      have hone := hone0.drew
      have hrow3 : Row kR 79 (wr.alloc (.cells #[.int .i64 x0, .int .i64 x1, .int .i64 x2, .int .i64 x] 79)).drew w.heap.size (.slice a2 C.length c2) C := Row.drew (Row.alloc hrow2 _)
      have hbel3 : Below w.heap.size w (wr.alloc (.cells #[.int .i64 x0, .int .i64 x1, .int .i64 x2, .int .i64 x] 79)).drew := (bel_alloc hbel _).drew
      have hc3' : C.length + [(⟨x0, x1, x2, x⟩ : Rc)].length ≤ maxLen := by simp [maxLen]; omega
      have hc4' : (C.length + [(⟨x0, x1, x2, x⟩ : Rc)].length) * 32 ≤ 140737488355328 := by simp; omega
      have hc5' : w.heap.size ≤ (wr.alloc (.cells #[.int .i64 x0, .int .i64 x1, .int .i64 x2, .int .i64 x] 79)).drew.heap.size := by have := hbel.size; simp; omega
      go_region_held3 (fun X => X.cell? ⟨g, off + q, none⟩ = some (.int .u8 x0) ∧ X.cell? ⟨g, off + q + 1, none⟩ = some (.int .u8 x1) ∧ X.cell? ⟨g, off + q + 2, none⟩ = some (.int .u8 x2))
        (first | exact ⟨e0, e1, e2⟩ | exact ⟨(World.cell?_alloc_past _ _ _ hg).trans e0, (World.cell?_alloc_past _ _ _ hg).trans e1, (World.cell?_alloc_past _ _ _ hg).trans e2⟩ | exact hcells _ hb2)
        (first
          | (go_at_call 71; refine (hread wr.drew rfl).mono ?_; rintro e w1 ⟨rfl, rfl⟩)
          | (refine Ft elemR _ rfl (.tmp 17) (.tmp 34) rfl w.heap.size (.slice a2 C.length c2) C rfl hrow3 (some ⟨_, 0, none⟩) 1 1 [⟨x0, x1, x2, x⟩] rfl rfl hone hc3' hc4' hc5' ?_
             intro v1 w2 hown hgrow hat _
             have hb2 : Below w.heap.size w w2 := Cv (K := kR) (e := 79) (base := w.heap.size) (L := C) hbel3 hgrow hrow3 (Nat.le_refl _) hc5')
          | fail)
      go_wp2_with fail
      go_roundw
      case rel => exact ⟨k + 1, by omega, by have := Hq.out; go_num, by rw [hsucc.out]; exact hown, hb2⟩
      case measure => have := Hn.out; have := Hq.out; simp [intOf]; omega
    · have hke : k = n := by omega
      subst hke
      have hng : ¬ (((6 * k : Nat) : Int) < b.length) := by omega
      go_wp2_with fail
      go_ret
      exact ⟨_, rfl, hrow, hbel⟩
theorem digs_one {n : Int} (h : 0 ≤ n) (h2 : n < 256) : digs n 1 = [n] := by simp [digs, dig]; omega
theorem digs_enc {r : Rc} (h : ¬ noKind r ∧ ¬ far r) : digs r.sh 1 ++ (digs r.au 1 ++ (digs r.k 1 ++ digs r.m 3)) = enc r := by
 have h1 := h.1
 have h2 := h.2
 unfold noKind at h1
 unfold far at h2
 rw [digs_one (by omega) (by omega), digs_one (by omega) (by omega), digs_one (by omega) (by omega)]
 unfold enc
 simp [digs, dig]; omega
theorem digs_tot {n : Int} (h : 0 ≤ n) (h2 : n ≤ 100000000) : digs n 4 = tot4 n := by
 unfold tot4; simp [digs, dig]; omega
theorem write1 (B : List Int) (n : Int) (base : Nat) (v : Value) (w : World) (h : Row kB 5 w base v B) (hB : B.length ≤ 1000000) (hbase : base ≤ w.heap.size) :
  Calls Tryz.prog 164 #[v, .int .i64 n, .int .i64 1] w (AnswersW w base v (B ++ digs n 1)) := write_any B n 1 base v w h (by omega) hB hbase
theorem write3 (B : List Int) (n : Int) (base : Nat) (v : Value) (w : World) (h : Row kB 5 w base v B) (hB : B.length ≤ 1000000) (hbase : base ≤ w.heap.size) :
  Calls Tryz.prog 164 #[v, .int .i64 n, .int .i64 3] w (AnswersW w base v (B ++ digs n 3)) := write_any B n 3 base v w h (by omega) hB hbase
theorem write4 (B : List Int) (n : Int) (base : Nat) (v : Value) (w : World) (h : Row kB 5 w base v B) (hB : B.length ≤ 1000000) (hbase : base ≤ w.heap.size) :
  Calls Tryz.prog 164 #[v, .int .i64 n, .int .i64 4] w (AnswersW w base v (B ++ digs n 4)) := write_any B n 4 base v w h (by omega) hB hbase
structure Byw (w W : World) (a : Option Addr) (cap : Nat) (S : List Rc) (u : Value) (C : List Int) : Prop where
 bel : Below w.heap.size w W
 res : W.heap[w.heap.size]? = some (.cells #[.int .i64 0, .int .i64 0] 47)
 lies : Lies kR W a cap S
 lt : ∀ ad, a = some ad → ad.block < W.heap.size
 row : Row kB 5 W (w.heap.size + 1) u C
 ne : ∀ ad, a = some ad → u.ownBlock ≠ some ad.block
theorem Byw.big {w W : World} {a : Option Addr} {cap : Nat} {S : List Rc} {u : Value} {C : List Int} (h : Byw w W a cap S u C) : w.heap.size + 1 ≤ W.heap.size := lt_of_block h.res
theorem Byw.on {w W W' : World} {a : Option Addr} {cap : Nat} {S : List Rc} {u : Value} {C : List Int} (h : Byw w W a cap S u C) (hb : Below W.heap.size W W') : Byw w W' a cap S u C :=
 ⟨h.bel.trans (hb.mono h.bel.size), (hb.block _ (by have := h.big; omega)).trans h.res, h.lies.below hb, fun ad ha => Nat.lt_of_lt_of_le (h.lt ad ha) hb.size, h.row.below hb, h.ne⟩
theorem Byw.grow {w W W' : World} {a : Option Addr} {cap : Nat} {S : List Rc} {u u' : Value} {C C' : List Int} (h : Byw w W a cap S u C) (hr : Row kB 5 W' (w.heap.size + 1) u' C') (hg : W.grownBy W' u.ownBlock) (ha : ∀ k, u'.ownBlock = some k → u.ownBlock = some k ∨ W.heap.size ≤ k) : Byw w W' a cap S u' C' := by
 have hbig := h.big
 refine ⟨Cv h.bel hg h.row (by omega) (by omega), ?_, h.lies.grown hg h.ne, fun ad had => Nat.lt_of_lt_of_le (h.lt ad had) hg.size, hr, fun ad had hk => ?_⟩
 ·refine (hg.block _ (by omega) fun hk => ?_).trans h.res
  have := (h.row.block_lt _ hk.symm).1
  omega
 ·rcases ha _ hk with h1 | h1
  ·exact h.ne ad had h1
  ·have := h.lt ad had
   omega
structure Byx (w W : World) (a : Option Addr) (cap : Nat) (S : List Rc) (u : Value) (C : List Int) (Z : Nat) (r : Rc) : Prop extends Byw w W a cap S u C where
 box : W.heap[Z]? = some (rob r)
 nez : u.ownBlock ≠ some Z
theorem Byx.grow {w W W' : World} {a : Option Addr} {cap : Nat} {S : List Rc} {u u' : Value} {C C' : List Int} {Z : Nat} {r : Rc} (h : Byx w W a cap S u C Z r) (hr : Row kB 5 W' (w.heap.size + 1) u' C') (hg : W.grownBy W' u.ownBlock) (ha : ∀ k, u'.ownBlock = some k → u.ownBlock = some k ∨ W.heap.size ≤ k) : Byx w W' a cap S u' C' Z r := by
 have hz := lt_of_block h.box
 refine ⟨h.toByw.grow hr hg ha, (hg.block _ hz fun hk => h.nez hk.symm).trans h.box, fun hk => ?_⟩
 rcases ha _ hk with h1 | h1
 ·exact h.nez h1
 ·omega
theorem Byw.take {w W : World} {a : Option Addr} {cap : Nat} {S : List Rc} {u : Value} {C : List Int} (h : Byw w W a cap S u C) (r : Rc) : Byx w (W.alloc (rob r)) a cap S u C W.heap.size r :=
 ⟨h.on (below_alloc _ _), heap_alloc_at _ _ _ rfl, fun hk => by have := (h.row.block_lt _ hk).2; omega⟩
theorem rob_cells {W : World} {b : Nat} {t : Rc} (hb : W.heap[b]? = some (rob t)) :
  W.cell? ⟨b, 0, none⟩ = some (.int .i64 t.sh) ∧ W.cell? ⟨b, 1, none⟩ = some (.int .i64 t.au) ∧ W.cell? ⟨b, 2, none⟩ = some (.int .i64 t.k) ∧ W.cell? ⟨b, 3, none⟩ = some (.int .i64 t.m) := by
 unfold rob at hb
 refine ⟨?_, ?_, ?_, ?_⟩ <;> simp [World.cell?, hb]
def AnswersB (w : World) (r : List Int × (Int × Int)) (e : Ending) (w' : World) : Prop := ∃ v', e = .returned (.tuple #[v', fv r.2]) ∧ Row kB 5 w' w.heap.size v' r.1 ∧ Below w.heap.size w w'
theorem bytes_any (L : List Rc) (v : Value) (w : World) (h : At kR w v L) : Calls Tryz.prog 140 #[v] w (AnswersB w (bytesR L)) := by
 have b0 : Below w.heap.size w (w.alloc (.cells #[.int .i64 0, .int .i64 0] 47)) := below_alloc _ _
 have hR0 : (w.alloc (.cells #[.int .i64 0, .int .i64 0] 47)).heap[w.heap.size]? = some (.cells #[.int .i64 0, .int .i64 0] 47) := heap_alloc_at _ _ _ rfl
 have hz0 : w.heap.size < (w.alloc (.cells #[.int .i64 0, .int .i64 0] 47)).heap.size := by simp
 have hh := h
 obtain ⟨a0, c0, rfl, hl⟩ := h
 by_cases hw : (B9 L).1 = 0
 case neg =>
  have hE := hid (bytes_bad hw)
  have hw' : ((B9 L).1 != 0) = true := by simpa using hw
  have hWr : ∀ X : World, Below w.heap.size w X → Calls Tryz.prog 31 #[.slice a0 L.length c0] X fun e w' => e = .returned (.agg #[.int .i64 (B9 L).1, .int .i64 (B9 L).2]) ∧ Below X.heap.size X w' := fun X hX => wrong_any L _ X (hh.below hX)
  have hE2 : Hid (bytesR L = ([], ((B9 L).1, (B9 L).2))) := by rw [hE.out]; exact hid rfl
  clear hw hE
  generalize (B9 L).1 = e1 at *
  generalize (B9 L).2 = e2 at *
  go_enter Tryz.func140, Tryz.ntmps140
  go_upto_region 1 with fail
  generalize w.alloc (.cells #[.int .i64 0, .int .i64 0] 47) = W0 at *
  go_upto_region 3 with (go_at_call 31; refine (hWr _ b0).mono ?_; rintro e w1 ⟨rfl, hb1⟩)
  have hR1 := (hb1.block _ hz0).trans hR0
  have hz1 : w.heap.size < w1.heap.size := Nat.lt_of_lt_of_le hz0 hb1.size
  have hbw : Below w.heap.size w (w1.alloc (.cells #[.int .i64 e1, .int .i64 e2] 47)) := bel_alloc (b0.trans (hb1.mono b0.size)) _
  have hR2 : (w1.alloc (.cells #[.int .i64 e1, .int .i64 e2] 47)).heap[w.heap.size]? = some (.cells #[.int .i64 0, .int .i64 0] 47) := (heap_alloc_old _ _ hz1).trans hR1
  have C0 : (w1.alloc (.cells #[.int .i64 e1, .int .i64 e2] 47)).cell? ⟨w1.heap.size, 0, none⟩ = some (.int .i64 e1) := by simp
  have C1 : (w1.alloc (.cells #[.int .i64 e1, .int .i64 e2] 47)).cell? ⟨w1.heap.size, 1, none⟩ = some (.int .i64 e2) := by simp
  obtain ⟨r0, r1, f0, f1⟩ := res_cells hR2
  have hne : w.heap.size ≠ w1.heap.size := by omega
  have hne' : w1.heap.size ≠ w.heap.size := by omega
  generalize w1.alloc (.cells #[.int .i64 e1, .int .i64 e2] 47) = W2 at *
  generalize w1.heap.size = Z at *
  go_region
  all_goals
   go_wp2_with fail
   refine bodyPost_ret (v := .tuple #[.slice none 0 0, .agg #[.int .i64 e1, .int .i64 e2]]) (by simp [results, Tryz.results140, go_sem, r0, r1]; try rfl) rfl ?_
   rw [hE2.out]
   refine ⟨_, rfl, .nil, ?_⟩
   repeat (first | exact hbw | refine Below.drew ?_ | refine Below.setCell ?_ (by simp) _)
 case pos =>
  have hR := wrong_ok.1 hw
  have hE := hid (bytes_ok hw)
  have hwz := wrong_zero hw
  have hWr : ∀ X : World, Below w.heap.size w X → Calls Tryz.prog 31 #[.slice a0 L.length c0] X fun e w' => e = .returned (.agg #[.int .i64 0, .int .i64 0]) ∧ Below X.heap.size X w' := fun X hX => by
   have := wrong_any L _ X (hh.below hX); rw [hwz] at this; exact this
  have hfew := hR.few
  have hlen0 : Hid (digs (L.length : Int) 1 = [(L.length : Int)]) := hid (digs_one (by omega) (by omega))
  have HR := hid hR
  have hfew' : L.length * 32 ≤ 140737488355328 := by omega
  clear hw hwz hR
  go_enter Tryz.func140, Tryz.ntmps140
  go_upto_region 1 with fail
  generalize w.alloc (.cells #[.int .i64 0, .int .i64 0] 47) = W0 at *
  go_upto_region 4 with (go_at_call 31; refine (hWr _ b0).mono ?_; rintro e w1 ⟨rfl, hb1⟩)
  have hR1 := (hb1.block _ hz0).trans hR0
  have hz1 : w.heap.size < w1.heap.size := Nat.lt_of_lt_of_le hz0 hb1.size
  have hbw : Below w.heap.size w (w1.alloc (.cells #[.int .i64 0, .int .i64 0] 47)) := bel_alloc (b0.trans (hb1.mono b0.size)) _
  have hR2 : (w1.alloc (.cells #[.int .i64 0, .int .i64 0] 47)).heap[w.heap.size]? = some (.cells #[.int .i64 0, .int .i64 0] 47) := (heap_alloc_old _ _ hz1).trans hR1
  generalize w1.alloc (.cells #[.int .i64 0, .int .i64 0] 47) = W2 at *
  have hz2 := lt_of_block hR2
  have hzb : w.heap.size + 1 ≤ W2.heap.size := hz2
  clear hb1 hR1 hz1 hR0 hz0 b0
  go_upto_region 5 with (go_at_call 164; refine (write1 [] _ (w.heap.size + 1) _ _ .nil (by simp) hzb).mono ?_; rintro e w3 ⟨v3, rfl, hr3, hg3, ha3⟩)
  have hb3 : Below W2.heap.size W2 w3 := Cv (L := []) (Below.refl _ _) hg3 (.nil : Row kB 5 W2 W2.heap.size (.slice none 0 0) []) (Nat.le_refl _) (Nat.le_refl _)
  have hbw3 : Below w.heap.size w w3 := hbw.trans (hb3.mono (Nat.le_of_lt hz2))
  have hR3 := (hb3.block _ hz2).trans hR2
  rw [List.nil_append, hlen0.out] at hr3
  go_wp2_with (go_at_call 35; refine (sorted_any L _ _ (hh.below hbw3) hfew').mono ?_; rintro e w4 ⟨a4, c4, rfl, hl4, hp4, hlt4, hb4⟩)
  have B0 : Byw w w4 a4 c4 (sortR L) v3 [(L.length : Int)] := ⟨hbw3.trans (hb4.mono (by have := hb3.size; omega)), (hb4.block _ (lt_of_block hR3)).trans hR3, hl4, hlt4, hr3.below hb4, fun ad had hk => by
   have h1 := hp4 ad had
   have h2 := (hr3.block_lt _ hk).2
   omega⟩
  clear hl4 hp4 hlt4 hb4 hr3 hg3 ha3 hb3 hbw3 hR3 hR2 hbw hz2 hzb hlen0
  have hsl : (sortR L).length ≤ 100 := by rw [Bw]; exact hfew
  have hSr := hid HR.out.sort
  obtain ⟨S, hS⟩ : ∃ S, Hid (sortR L = S) := ⟨_, rfl⟩
  rw [hS.out] at B0 hsl hSr ⊢
  go_loopw [20, 5] (fun i u wr => ∃ k : Nat, k ≤ S.length ∧ i = .int .i64 k ∧ Byw w wr a4 c4 S u ((L.length : Int) :: (S.take k).flatMap enc)) (fun i _ _ => S.length - (intOf i).toNat)
  case atStart => exact ⟨0, Nat.zero_le _, rfl, by simpa using B0⟩
  case round =>
   clear B0
   obtain ⟨k, hk, rfl, B0⟩ := hrel
   have hCl : Hid (((L.length : Int) :: (S.take k).flatMap enc).length = 1 + 6 * k) := by rw [List.length_cons, flat_length, List.length_take]; exact hid (by omega)
   by_cases hlt : k < S.length
   ·have hlt' : (k : Int) < S.length := by omega
    obtain ⟨b, off, rfl, hbl, e1, e2, e3, e4⟩ := rc_cells B0.lies hlt
    have hgood := hSr.out.each _ (getD_mem hlt)
    have hnew : Hid (((L.length : Int) :: (S.take (k + 1)).flatMap enc) = ((L.length : Int) :: (S.take k).flatMap enc) ++ enc (S.getD k zR)) := by rw [take_at hlt]; exact hid (by simp)
    generalize (L.length : Int) :: (S.take k).flatMap enc = C at *
    generalize S.getD k zR = r at *
    have henc := hid (digs_enc hgood)
    have X0 := B0.take r
    unfold rob at X0
    go_upto_region 8 with fail
    generalize wr.alloc (.cells #[.int .i64 r.sh, .int .i64 r.au, .int .i64 r.k, .int .i64 r.m] 79) = W1 at *
    generalize wr.heap.size = Z at *
    clear e1 e2 e3 e4 B0 hgood
    obtain ⟨g0, g1, g2, g3⟩ := rob_cells X0.box
    have hq := X0.big
    go_upto_region 9 with (go_at_call 164; refine (write1 C _ (w.heap.size + 1) _ _ X0.row (by have := hCl.out; omega) hq).mono ?_; rintro e w5 ⟨v5, rfl, hr5, hg5, ha5⟩)
    have X1 := X0.grow hr5 hg5 ha5
    clear X0 hr5 hg5 ha5 g0 g1 g2 g3 hq
    obtain ⟨g0, g1, g2, g3⟩ := rob_cells X1.box
    have hq := X1.big
    go_upto_region 10 with (go_at_call 164; refine (write1 _ _ (w.heap.size + 1) _ _ X1.row (by have := hCl.out; rw [List.length_append, Gw]; omega) hq).mono ?_; rintro e w6 ⟨v6, rfl, hr6, hg6, ha6⟩)
    have X2 := X1.grow hr6 hg6 ha6
    clear X1 hr6 hg6 ha6 g0 g1 g2 g3 hq
    obtain ⟨g0, g1, g2, g3⟩ := rob_cells X2.box
    have hq := X2.big
    go_upto_region 11 with (go_at_call 164; refine (write1 _ _ (w.heap.size + 1) _ _ X2.row (by have := hCl.out; rw [List.length_append, List.length_append, Gw, Gw]; omega) hq).mono ?_; rintro e w7 ⟨v7, rfl, hr7, hg7, ha7⟩)
    have X3 := X2.grow hr7 hg7 ha7
    clear X2 hr7 hg7 ha7 g0 g1 g2 g3 hq
    obtain ⟨g0, g1, g2, g3⟩ := rob_cells X3.box
    have hq := X3.big
    go_wp2_with (go_at_call 164; refine (write3 _ _ (w.heap.size + 1) _ _ X3.row (by have := hCl.out; rw [List.length_append, List.length_append, List.length_append, Gw, Gw, Gw]; omega) hq).mono ?_; rintro e w8 ⟨v8, rfl, hr8, hg8, ha8⟩)
    have X4 := X3.grow hr8 hg8 ha8
    have hE4 : Hid (C ++ digs r.sh 1 ++ digs r.au 1 ++ digs r.k 1 ++ digs r.m 3 = (L.length : Int) :: (S.take (k + 1)).flatMap enc) := by rw [hnew.out, ← henc.out]; exact hid (by simp)
    go_roundw
    case rel => exact ⟨k + 1, by omega, by go_num, by rw [← hE4.out]; exact X4.toByw⟩
    case measure => simp [intOf]; omega
   ·have hke : k = S.length := by omega
    subst hke
    rw [List.take_length] at B0 hCl
    have htot := total_small HR.out
    have hfin : Hid (((L.length : Int) :: S.flatMap enc) ++ digs (total L) 4 = fileB L) := by
     rw [digs_tot htot.1 htot.2, ← hS.out]; exact hid rfl
    have hTo : ∀ X : World, Below w.heap.size w X → Calls Tryz.prog 70 #[.slice a0 L.length c0] X fun e w' => e = .returned (.int .i64 (total L)) ∧ Below X.heap.size X w' := fun X hX => total_any L _ X (hh.below hX) HR.out
    generalize total L = tt at *
    generalize (L.length : Int) :: S.flatMap enc = C at *
    have hbl := B0.bel
    go_wp2_with (first
     | (go_at_call 70; refine (hTo _ hbl).mono ?_; rintro e w5 ⟨rfl, hb5⟩; have B1 := B0.on hb5; have hq := B1.big)
     | (go_at_call 164; refine (write4 _ _ (w.heap.size + 1) _ _ B1.row (by have := hCl.out; omega) hq).mono ?_; rintro e w6 ⟨v6, rfl, hr6, hg6, ha6⟩; have B2 := B1.grow hr6 hg6 ha6; obtain ⟨r0, r1, f0, f1⟩ := res_cells B2.res))
    refine bodyPost_ret (v := .tuple #[v6, .agg #[.int .i64 0, .int .i64 0]]) (by simp [results, Tryz.results140, go_sem, r0, r1]; try rfl) rfl ?_
    rw [hE.out]
    refine ⟨v6, rfl, ?_, (B2.bel.setCell (Nat.le_refl _) _).setCell (Nat.le_refl _) _⟩
    have hr7 := B2.row
    rw [hfin.out] at hr7
    refine (hr7.keep (by simp) fun k hk _ => ?_).mono (by omega)
    have := (hr7.block_lt k hk).1
    rw [heap_setCell_other _ ⟨w.heap.size, 1, none⟩ _ _ (by simp; omega), heap_setCell_other _ ⟨w.heap.size, 0, none⟩ _ _ (by simp; omega)]
theorem srt_of_adj : ∀ {L : List Rc}, (∀ j, j + 1 < L.length → Gb (L.getD j zR) (L.getD (j + 1) zR) = false) → Fy L
 | [], _ => srt_nil
 | [x], _ => List.pairwise_singleton _ _
 | x :: y :: r, h => by
  have ih : Fy (y :: r) := srt_of_adj fun j hj => by
   have := h (j + 1) (by simp at hj ⊢; omega)
   simpa using this
  have hxy : Gb x y = false := by have := h 0 (by simp); simpa using this
  refine List.pairwise_cons.2 ⟨fun z hz => ?_, ih⟩
  rcases List.mem_cons.1 hz with rfl | hz
  ·exact hxy
  ·exact Ii hxy ((List.pairwise_cons.1 ih).1 z hz)
def srtB (L : List Rc) : Bool := sameL L (sortR L)
theorem srtB_true {L : List Rc} (h : Fy L) : srtB L = true := sameL_true.2 (Ie h).symm
theorem srtB_false {L : List Rc} {j : Nat} (hj : j + 1 < L.length) (h : Gb (L.getD j zR) (L.getD (j + 1) zR) = true) : srtB L = false := by
 cases hb : srtB L
 ·rfl
 ·have := sameL_true.1 hb
  have hs : Fy L := by rw [this]; exact Gs L
  have := hs.at (i := j) (j := j + 1) (by omega) hj
  rw [h] at this; cases this
theorem lies_eight {w : World} {a : Option Addr} {cap : Nat} {L : List Rc} (h : Lies kR w a cap L) {i j : Nat} (hi : i < L.length) (hj : j < L.length) : ∃ g off, a = some ⟨g, off, none⟩ ∧ g < w.heap.size ∧
  (w.cell? ⟨g, off + i * 4, none⟩ = some (.int .i64 (L.getD i zR).sh) ∧ w.cell? ⟨g, off + i * 4 + 1, none⟩ = some (.int .i64 (L.getD i zR).au) ∧ w.cell? ⟨g, off + i * 4 + 2, none⟩ = some (.int .i64 (L.getD i zR).k) ∧ w.cell? ⟨g, off + i * 4 + 3, none⟩ = some (.int .i64 (L.getD i zR).m)) ∧
  (w.cell? ⟨g, off + j * 4, none⟩ = some (.int .i64 (L.getD j zR).sh) ∧ w.cell? ⟨g, off + j * 4 + 1, none⟩ = some (.int .i64 (L.getD j zR).au) ∧ w.cell? ⟨g, off + j * 4 + 2, none⟩ = some (.int .i64 (L.getD j zR).k) ∧ w.cell? ⟨g, off + j * 4 + 3, none⟩ = some (.int .i64 (L.getD j zR).m)) := by
 obtain ⟨b, off, rfl, hb, h1⟩ := rc_cells h hi
 obtain ⟨b', off', h2, -, h3⟩ := rc_cells h hj
 cases h2
 exact ⟨b, off, rfl, hb, h1, h3⟩
theorem isSorted_any (L : List Rc) (v : Value) (w : World) (h : At kR w v L) (hN : L.length ≤ 1000000000000000) :
  Calls Tryz.prog 72 #[v, .func (.func 73) #[] #[]] w fun e w' => e = .returned (.bool (srtB L)) ∧ Below w.heap.size w w' := by
 obtain ⟨a, c, rfl, hl⟩ := h
 go_enter Tryz.func72, Tryz.ntmps72
 go_wp2
 go_loopw [5] (fun i wr => ∃ k : Nat, (k ≤ L.length ∧ (k = 0 → L.length = 0)) ∧ i = .int .i64 ((k : Int) - 1) ∧ Hid (∀ j, k ≤ j + 1 → j + 1 < L.length → Gb (L.getD j zR) (L.getD (j + 1) zR) = false) ∧ Below w.heap.size w wr) (fun i _ => ((intOf i) + 1).toNat)
 case atStart => exact ⟨L.length, ⟨Nat.le_refl _, fun h => h⟩, by go_num, fun j h1 h2 => by omega, Below.refl _ _⟩
 case round =>
  obtain ⟨k, ⟨hk, hk0⟩, rfl, hadj, hb⟩ := hrel
  by_cases hlt : 1 < k
  ·obtain ⟨r, rfl⟩ : ∃ r, k = r + 2 := ⟨k - 2, by omega⟩
   have hI : ((r + 2 : Nat) : Int) - 1 = (r : Int) + 1 := by omega
   rw [hI]
   have hgt : 0 < (r : Int) + 1 := by omega
   obtain ⟨g, off, rfl, hg, ⟨c1, c2, c3, c4⟩, d1, d2, d3, d4⟩ := lies_eight (hl.below hb) (i := r + 1) (j := r) (by omega) (by omega)
   obtain ⟨x, hx⟩ : ∃ x, Hid (L.getD (r + 1) zR = x) := ⟨_, rfl⟩
   obtain ⟨y, hy⟩ : ∃ y, Hid (L.getD r zR = y) := ⟨_, rfl⟩
   rw [hx.out] at c1 c2 c3 c4
   rw [hy.out] at d1 d2 d3 d4
   have hI0 : (0 : Int) ≤ (r : Int) + 1 := by omega
   have hI1 : (r : Int) + 1 < L.length := by omega
   have hI2 : (r : Int) < L.length := by omega
   have hI3 : r < L.length := by omega
   have hW1 : IntKind.i64.wrap ((r : Int) + 1 - 1) = r := by rw [Int.add_sub_cancel]; simp [IntKind.wrap, IntKind.bits, IntKind.signed]; omega
   have hW2 : IntKind.i64.wrap (r : Int) = r := by simp [IntKind.wrap, IntKind.bits, IntKind.signed]; omega
   obtain ⟨o, ho⟩ : ∃ o, Hid (ordR x y = o) := ⟨_, rfl⟩
   have hord : ∀ W : World, Calls Tryz.prog 73 #[rv x, rv y] W fun e w' => e = .returned (.int .i64 o) ∧ Below W.heap.size W w' := fun W => by rw [← ho.out]; exact order_any x y W
   unfold rv at hord
   clear hI
   go_upto_region 4 with fail
   go_region_held3 (fun X => X.cell? ⟨g, off + (r + 1) * 4, none⟩ = some (.int .i64 x.sh) ∧ X.cell? ⟨g, off + (r + 1) * 4 + 1, none⟩ = some (.int .i64 x.au) ∧ X.cell? ⟨g, off + (r + 1) * 4 + 2, none⟩ = some (.int .i64 x.k) ∧ X.cell? ⟨g, off + (r + 1) * 4 + 3, none⟩ = some (.int .i64 x.m) ∧
     X.cell? ⟨g, off + r * 4, none⟩ = some (.int .i64 y.sh) ∧ X.cell? ⟨g, off + r * 4 + 1, none⟩ = some (.int .i64 y.au) ∧ X.cell? ⟨g, off + r * 4 + 2, none⟩ = some (.int .i64 y.k) ∧ X.cell? ⟨g, off + r * 4 + 3, none⟩ = some (.int .i64 y.m))
    (first | exact ⟨c1, c2, c3, c4, d1, d2, d3, d4⟩ | exact ⟨(hb2.cell (p := ⟨g, _, none⟩) hg).trans c1, (hb2.cell (p := ⟨g, _, none⟩) hg).trans c2, (hb2.cell (p := ⟨g, _, none⟩) hg).trans c3, (hb2.cell (p := ⟨g, _, none⟩) hg).trans c4, (hb2.cell (p := ⟨g, _, none⟩) hg).trans d1, (hb2.cell (p := ⟨g, _, none⟩) hg).trans d2, (hb2.cell (p := ⟨g, _, none⟩) hg).trans d3, (hb2.cell (p := ⟨g, _, none⟩) hg).trans d4⟩)
    ((go_at_call 73; refine (hord _).mono ?_; rintro e w1 ⟨rfl, hb1⟩; have hb2 : Below wr.heap.size wr w1 := (Below.refl wr.heap.size wr).drew.trans hb1; clear hb1))
   have hbw : Below w.heap.size w w1 := hb.trans (hb2.mono hb.size)
   clear hord hb2
   by_cases ho0 : o < 0
   ·have hgt2 : Gb (L.getD r zR) (L.getD (r + 1) zR) = true := by rw [hx.out, hy.out]; exact ord_neg.1 (by rw [ho.out]; exact ho0)
    have hE := hid (srtB_false (by omega) hgt2)
    clear hgt2
    go_wp2_with fail
    go_ret
    exact ⟨ret_bool hE.out.symm, hbw⟩
   ·have hgt2 : Gb (L.getD r zR) (L.getD (r + 1) zR) = false := by rw [hx.out, hy.out]; exact ord_pos.1 (by rw [ho.out]; exact ho0)
    have hnew : Hid (∀ j, r + 1 ≤ j + 1 → j + 1 < L.length → Gb (L.getD j zR) (L.getD (j + 1) zR) = false) := hid fun j h1 h2 => by
     by_cases hj : j = r
     ·subst hj; exact hgt2
     ·exact hadj.out j (by omega) h2
    clear hgt2
    go_wp2_with fail
    go_roundw
    case rel => exact ⟨r + 1, ⟨by omega, fun h => by omega⟩, by go_num, hnew, hbw⟩
    case measure => simp [intOf]; omega
  ·have hng : ¬ (0 < (k : Int) - 1) := by omega
   have hE := hid (srtB_true (srt_of_adj (L := L) fun j hj => hadj.out j (by omega) hj))
   go_wp2_with fail
   go_ret
   exact ⟨ret_bool hE.out.symm, hb⟩
