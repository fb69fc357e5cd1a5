import Derived.Test.YtofcnebekmjdoaaGreatDoorKam
set_option maxHeartbeats 4000000
set_option maxRecDepth 100000
namespace Go.Proofs.YtofcnebekmjdoaaGreatDoor.Gn
open Go.ChangeShapes Go.WideShapes Go.ChangeAt Go.RowKit
theorem at_some {α : Type} {xs : List α} {n i : Nat} (h : xs.length = n) (hi : i < n) : ∃ y, xs[i]? = some y := ⟨xs[i], List.getElem?_eq_getElem (by omega)⟩
theorem field_int {H : Type} {enc : TypeId × Value → H} {W : World} {base : Nat} {spare : Nat → Bool} {held : Bool} {n i : Nat} {v : Value} {xs : List (DataW H × List MemPlace)} {m : Nat}
  (h : DataW.trod enc Tryz.prog W base spare held n 3 [v] = xs[i]?) (hl : xs.length = m) (hi : i < m) : ∃ k : Int, v = .int .i64 k ∧ -9223372036854775808 ≤ k ∧ k ≤ 9223372036854775807 := by
 obtain ⟨y, hy⟩ := at_some hl hi
 obtain ⟨k, e, _, hw⟩ := DataW.trod_int Tryz.underlying3 (h.trans hy)
 exact ⟨k, by simpa using e, wf_i64 hw⟩
theorem open_list {α : Type} (dflt : α) {H : Type} {enc : TypeId × Value → H} {W : World} {base : Nat} {spare : Nat → Bool} {held : Bool} (K : Kind α) (good : α → Prop) {t e : TypeId} (ht : Tryz.prog.underlying t = some (.slice e)) (hc : Tryz.prog.cellsOf e = K.size)
  (hel : ∀ n cs x, DataW.trod enc Tryz.prog W base spare held n e cs = some x → ∃ y : α, cs = K.cells y ∧ good y)
  {fuel : Nat} {a : Option Addr} {len cap : Nat} {x : DataW H × List MemPlace} (h : DataW.trod enc Tryz.prog W base spare held fuel t [.slice a len cap] = some x) :
  ∃ L : List α, len = L.length ∧ Lies K W a cap L ∧ (∀ y ∈ L, good y) ∧ (L.length = 0 ∨ ∃ es sp, x.1 = .slice es sp ∧ es.length = L.length) := by
 rcases Go.Deep.open_slice ht h with ⟨hcs, -⟩ | ⟨ad, l, c, m, n, D, Pl, hcs, -, hl, hm, hmm, hx, hD⟩
 ·simp at hcs
  obtain ⟨rfl, rfl, rfl⟩ := hcs
  exact ⟨[], rfl, lies_nil K W, (fun _ h => by cases h), Or.inl rfl⟩
 ·simp at hcs
  obtain ⟨rfl, rfl, rfl⟩ := hcs
  have hlm : len ≤ m := by rw [hmm]; split <;> omega
  have each : ∀ i, i < len → ∃ y : α, good y ∧ ∀ j u, (K.cells y)[j]? = some u → W.cell? (ad.add (i * K.size + j)) = some u := fun i hi => by
   obtain ⟨cs, h1, h2⟩ := hD i (by omega)
   obtain ⟨y, rfl, hg⟩ := hel _ _ _ h2
   obtain ⟨_, hlen, hcell⟩ := World.cells?_some h1
   refine ⟨y, hg, fun j u hj => ?_⟩
   have hj' : j < K.size := by have := (List.getElem?_eq_some_iff.1 hj).1; rwa [K.len] at this
   have := hcell j (by omega)
   rw [Go.Deep.add_add, hc] at this
   rw [this]; exact hj
  obtain ⟨F, hF⟩ := @Go.Deep.choose_lt α ⟨dflt⟩ _ _ each
  have hlen : ((List.range len).map F).length = len := by simp
  refine ⟨(List.range len).map F, hlen.symm, ⟨by rw [hlen]; omega, (fun h => by cases h), ?_⟩, ?_, Or.inr ⟨_, _, by rw [hx], by simp⟩⟩
  ·by_cases h0 : len = 0
   ·subst h0; exact Or.inl rfl
   right
   have hne : ∃ u, (K.cells (F 0))[0]? = some u := at_some (K.len (F 0)) K.pos
   obtain ⟨u0, hu0⟩ := hne
   have hF0 := (hF 0 (by omega)).2 0 u0 hu0
   obtain ⟨b, off, spot⟩ := ad
   have hs : spot = none := by simpa [Addr.add] using World.cell?_spot hF0
   subst hs
   refine ⟨b, off, rfl, ?_, fun j u hj => ?_⟩
   ·rw [addr_add] at hF0; exact World.block_lt_of_cell? W _ hF0
   ·have hjl : j < len * K.size := by
     have := (List.getElem?_eq_some_iff.1 hj).1
     rw [K.flat_length, hlen] at this; exact this
    have hi : j / K.size < len := Nat.div_lt_of_lt_mul (by rw [Nat.mul_comm]; exact hjl)
    have hdm := Nat.div_add_mod j K.size
    have hat : ((List.range len).map F)[j / K.size]? = some (F (j / K.size)) := by simp [hi]
    have hmod : j % K.size < K.size := Nat.mod_lt _ K.pos
    obtain ⟨v, hv⟩ := at_some (K.len (F (j / K.size))) hmod
    have hj2 := K.flat_at hat hv
    have he : j / K.size * K.size + j % K.size = j := by rw [Nat.mul_comm]; exact hdm
    rw [he, hj] at hj2
    cases hj2
    have := (hF _ hi).2 _ _ hv
    rw [he, addr_add] at this
    exact this
  ·intro y hy
   obtain ⟨i, hi, rfl⟩ := List.mem_map.1 hy
   exact (hF i (List.mem_range.1 hi)).1
end Go.Proofs.YtofcnebekmjdoaaGreatDoor.Gn
namespace Go.Proofs.YtofcnebekmjdoaaGreatDoor.Au
theorem Au.same {a b : Au} (h1 : a.card = b.card) (h2 : a.shop = b.shop) (h3 : a.sum = b.sum) (h4 : a.cap = b.cap) (h5 : a.ref = b.ref) (h6 : a.dis = b.dis) (h7 : a.till = b.till) (h8 : a.shut = b.shut) : a = b := by
 cases a; cases b; simp only at h1 h2 h3 h4 h5 h6 h7 h8; subst h1 h2 h3 h4 h5 h6 h7 h8; rfl
end Go.Proofs.YtofcnebekmjdoaaGreatDoor.Au
namespace Go.Proofs.YtofcnebekmjdoaaGreatDoor.Dy
theorem sort_sort (l : List Rc) : sortR (sortR l) = sortR l := sort_of_srt (sort_srt l)
theorem sumBy_ins (f : Rc → Int) (out : List Rc) (r : Rc) : sumBy f (insR out r) = sumBy f out + f r := by
 unfold insR
 conv => rhs; rw [← List.take_append_drop (pos r out out.length) out]
 rw [sumBy_append, sumBy_append, sumBy]; omega
theorem sumBy_foldl (f : Rc → Int) (l : List Rc) : ∀ out, sumBy f (l.foldl insR out) = sumBy f out + sumBy f l := by
 induction l with
 | nil => intro out; simp [sumBy]
 | cons r t ih => intro out; rw [List.foldl_cons, ih, sumBy_ins, sumBy]; omega
theorem sumBy_sort (f : Rc → Int) (l : List Rc) : sumBy f (sortR l) = sumBy f l := by unfold sortR; rw [sumBy_foldl]; simp [sumBy]
theorem file_zero (l : List Rc) : (fileB l).getD 0 0 = (l.length : Int) := by unfold fileB; simp
theorem getD_of {b : List Int} {p : Nat} {o : Option Int} (h : b[p]? = o) : b.getD p 0 = o.getD 0 := by rw [List.getD_eq_getElem?_getD, h]
theorem dec_file {l : List Rc} (h : Right l) {i : Nat} (hi : i < l.length) : decAt (fileB l) (1 + 6 * i) = (sortR l).getD i zR := by
 have h1 : i < (sortR l).length := by rw [sort_length]; exact hi
 have hr := h.each _ (mem_sort.1 (getD_mem h1))
 unfold decAt
 have e0 := getD_of (file_at hi (j := 0) (by omega))
 have e1 := getD_of (file_at hi (j := 1) (by omega))
 have e2 := getD_of (file_at hi (j := 2) (by omega))
 have e3 := getD_of (file_at hi (j := 3) (by omega))
 have e4 := getD_of (file_at hi (j := 4) (by omega))
 have e5 := getD_of (file_at hi (j := 5) (by omega))
 rw [Nat.add_zero] at e0
 rw [e0, e1, e2, e3, e4, e5]
 generalize (sortR l).getD i zR = r at *
 obtain ⟨sh, au, k, m⟩ := r
 unfold enc
 simp only [List.getElem?_cons_zero, List.getElem?_cons_succ, Option.getD_some]
 congr 1
 have := hr.2
 unfold far at this
 dsimp only at this
 omega
theorem list_ext {s t : List Rc} (h : s.length = t.length) (h1 : ∀ i, i < s.length → s.getD i zR = t.getD i zR) : s = t := by
 apply List.ext_getElem h
 intro i h2 h3
 have := h1 i h2
 rwa [getD_at h2, getD_at h3] at this
theorem recs_file {l : List Rc} (h : Right l) : recs (fileB l) l.length = sortR l := by
 apply list_ext
 ·rw [recs_length, sort_length]
 ·intro i hi
  rw [recs_length] at hi
  rw [recs_at _ hi, dec_file h hi]
theorem file_last4 {l : List Rc} (h : Right l) : last4 (fileB l) = total l := by
 have e0 := getD_of (file_last l (j := 0) (by omega))
 have e1 := getD_of (file_last l (j := 1) (by omega))
 have e2 := getD_of (file_last l (j := 2) (by omega))
 have e3 := getD_of (file_last l (j := 3) (by omega))
 unfold last4
 rw [file_length, show 5 + 6 * l.length - 4 = 1 + 6 * l.length + 0 by omega, show 5 + 6 * l.length - 3 = 1 + 6 * l.length + 1 by omega, show 5 + 6 * l.length - 2 = 1 + 6 * l.length + 2 by omega, show 5 + 6 * l.length - 1 = 1 + 6 * l.length + 3 by omega, e0, e1, e2, e3]
 have := total_small h
 generalize total l = n at *
 unfold tot4
 simp only [List.getElem?_cons_zero, List.getElem?_cons_succ, Option.getD_some]
 omega
theorem turns {l : List Rc} (h : Right l) : parseR (fileB l) = (sortR l, 0) := by
 have h0 : ((fileB l).getD 0 0).toNat = l.length := by rw [file_zero]; omega
 have hr := recs_file h
 rw [← h0] at hr
 have hf : ¬ noForm (fileB l) := by unfold noForm; rw [file_zero, file_length]; omega
 rw [parse_ok hf, hr]
 ·rw [hr]; exact wrong_ok.2 h.sort
 ·rw [hr, file_last4 h]; exact sumBy_sort _ _
 ·rw [hr, sort_sort]; exact sameL_true.2 rfl
end Go.Proofs.YtofcnebekmjdoaaGreatDoor.Dy
namespace Go.Proofs.YtofcnebekmjdoaaGreatDoor.Gn
open Go.RowKit
theorem kB_flat (L : List Int) : kB.flat L = L.map fun x => Value.int .u8 x := by
 induction L with
 | nil => rfl
 | cons x r ih => rw [kB.flat_cons, ih]; rfl
theorem byte_cell {w : World} {a : Option Addr} {cap : Nat} {L : List Int} (h : Lies kB w a cap L) {i : Nat} (hi : i < L.length) :
  ∃ b off, a = some ⟨b, off, none⟩ ∧ b < w.heap.size ∧ w.cell? ⟨b, off + i, none⟩ = some (.int .u8 (L.getD i 0)) := by
 obtain ⟨b, off, ha, hb, hc⟩ := h.elem (i := i) (x := L.getD i 0) (by simp [List.getD, hi])
 refine ⟨b, off, ha, hb, ?_⟩
 have := hc 0 _ rfl
 simpa [kB] using this
end Go.Proofs.YtofcnebekmjdoaaGreatDoor.Gn
namespace Go.Proofs.YtofcnebekmjdoaaGreatDoor.Dy
open Go.RowKit Go.Proofs.YtofcnebekmjdoaaGreatDoor.Gn
theorem ret_bool {a b : Bool} (h : a = b) : Ending.returned (.bool a) = .returned (.bool b) := by rw [h]
theorem wrap64' {x : Int} (h1 : -9223372036854775808 ≤ x) (h2 : x ≤ 9223372036854775807) : IntKind.i64.wrap x = x := by
 simp [IntKind.wrap, IntKind.bits, IntKind.signed]
 omega
theorem or8 {n x : Int} (h0 : 0 ≤ n) (h1 : n ≤ 4294967296) (h2 : 0 ≤ x) (h3 : x < 256) : bits .or .i64 (n * 256) x = n * 256 + x := by
 obtain ⟨m, rfl⟩ := Int.eq_ofNat_of_zero_le h0
 obtain ⟨y, rfl⟩ := Int.eq_ofNat_of_zero_le h2
 have e : (m * 256) ||| y = m * 256 + y := by
  have := Nat.two_pow_add_eq_or_of_lt (i := 8) (b := y) (by omega) m
  rw [show 2 ^ 8 * m = m * 256 by omega] at this
  exact this.symm
 have ha : (BitVec.ofInt 64 ((m : Int) * 256)).toNat = m * 256 := by rw [BitVec.toNat_ofInt]; omega
 have hb : (BitVec.ofInt 64 (y : Int)).toNat = y := by rw [BitVec.toNat_ofInt]; omega
 show IntKind.i64.wrap (((BitVec.ofInt 64 ((m : Int) * 256) ||| BitVec.ofInt 64 (y : Int)).toNat : Nat) : Int) = _
 rw [BitVec.toNat_or, ha, hb, e]
 exact (wrap64' (by omega) (by omega)).trans (by omega)
theorem read_any (b : List Int) (v : Value) (w : World) (h : At kB w v b) (hb : Byt b) (hl : b.length ≤ 4) :
  Calls Tryz.prog 71 #[v] w fun e w' => e = .returned (.int .i64 (b.foldl (fun n x => n * 256 + x) 0)) ∧ w' = w := by
 obtain ⟨a, c, rfl, hlie⟩ := h
 go_enter Tryz.func71, Tryz.ntmps71
 go_wp2
 go_loopw [8, 3] (fun i s wr => ∃ (k : Nat) (x : Int), k ≤ b.length ∧ i = .int .i64 k ∧ s = .int .i64 x ∧ Hid (x = (b.take k).foldl (fun n x => n * 256 + x) 0) ∧ 0 ≤ x ∧ x + 1 ≤ (256 : Int) ^ k ∧ wr = w) (fun i _ _ => b.length - (intOf i).toNat)
 case atStart => exact ⟨0, 0, Nat.zero_le _, rfl, rfl, by simp [Hid], by omega, by simp, rfl⟩
 case round =>
  obtain ⟨k, x, hk, rfl, rfl, hx, hx0, hx1, rfl⟩ := hrel
  by_cases hlt : k < b.length
  ·have hlt' : (k : Int) < b.length := by omega
   obtain ⟨g, off, rfl, hg, e1⟩ := byte_cell hlie hlt
   have hy := hb.at k
   have hyb : Hid (b[k]?.toList = [b.getD k 0]) := hid (by simp [List.getD, hlt])
   generalize b.getD k 0 = y at *
   have hx2 : x ≤ 16777216 := by
    obtain rfl | rfl | rfl | rfl : k = 0 ∨ k = 1 ∨ k = 2 ∨ k = 3 := by omega
    all_goals (simp at hx1; omega)
   have hor := or8 (n := x) (x := y) hx0 (by omega) hy.1 (by omega)
   have Hx1 := hid hx1
   clear hx1
   have hstep : Hid (x * 256 + y = (b.take (k + 1)).foldl (fun n x => n * 256 + x) 0) := by
    rw [List.take_add_one, List.foldl_append, ← hx.out, hyb.out]; exact hid rfl
   go_wp2_with fail
   refine ⟨⟨k + 1, x * 256 + y, by omega, by go_num, rfl, hstep, by omega, ?_, trivial⟩, by simp [intOf]; omega⟩
   have := Hx1.out
   rw [Int.pow_succ]
   omega
  ·have hE : Hid (x = b.foldl (fun n x => n * 256 + x) 0) := by rw [hx.out, List.take_of_length_le (by omega)]; exact hid rfl
   go_wp2
   go_ret
   exact ⟨ret_int hE.out, rfl⟩
theorem AtC.below {α : Type} {K : Kind α} {W W' : World} {v : Value} {L : List α} (h : AtC K W v L) (hb : Below W.heap.size W W') : AtC K W' v L := by
 obtain ⟨a, cap, rfl, hl, hc⟩ := h
 exact ⟨a, cap, rfl, hl.below hb, hc⟩
theorem lies_part {w : World} {g off cap c : Nat} {L : List Int} (h : Lies kB w (some ⟨g, off, none⟩) cap L) {lo m : Nat} (hm : lo + m ≤ L.length) : Lies kB w (some ⟨g, off + lo, none⟩) c ((L.drop lo).take m) := by
 refine ⟨by have := h.len; simp; omega, (fun h => by cases h), ?_⟩
 rcases h.at' with h0 | ⟨b, o, ha, hlt, hc⟩
 ·subst h0; simp
 ·cases ha
  refine Or.inr ⟨_, _, rfl, hlt, fun j u hj => ?_⟩
  rw [kB_flat] at hj
  have hj2 : ((L.drop lo).take m)[j]? = (L[lo + j]?) ∧ lo + j < L.length := by
   have hjl : j < (((L.drop lo).take m).map fun x => Value.int .u8 x).length := (List.getElem?_eq_some_iff.1 hj).1
   simp at hjl
   refine ⟨?_, by omega⟩
   rw [List.getElem?_take, if_pos (by omega), List.getElem?_drop]
  rw [List.getElem?_map, hj2.1] at hj
  have := hc (lo + j) u (by rw [kB_flat, List.getElem?_map]; exact hj)
  rw [Nat.add_assoc]; exact this
theorem part3 {b : List Int} {q : Nat} (h : q + 6 ≤ b.length) : (b.drop (q + 3)).take 3 = [b.getD (q + 3) 0, b.getD (q + 4) 0, b.getD (q + 5) 0] := by
 apply List.ext_getElem?
 intro i
 rw [List.getElem?_take, List.getElem?_drop]
 by_cases hi : i < 3
 ·rw [if_pos hi]
  obtain rfl | rfl | rfl : i = 0 ∨ i = 1 ∨ i = 2 := by omega
  ·simp [List.getD, show q + 3 < b.length by omega]
  ·simp [List.getD, show q + 3 + 1 < b.length by omega]
  ·simp [List.getD, show q + 3 + 2 < b.length by omega]
 ·rw [if_neg hi, List.getElem?_eq_none (by simp; omega)]
def recs0 (b : List Int) (n : Nat) : List Rc := (List.range n).map fun i => decAt b (6 * i)
theorem recs0_length (b : List Int) (n : Nat) : (recs0 b n).length = n := by simp [recs0]
theorem recs0_succ (b : List Int) (n : Nat) : recs0 b (n + 1) = recs0 b n ++ [decAt b (6 * n)] := by simp [recs0, List.range_succ]
theorem records_any (b : List Int) (n : Nat) (v : Value) (w : World) (h : AtC kB w v b) (hb : Byt b) (hn : b.length = 6 * n) (hn2 : n ≤ 1000) :
    Calls Tryz.prog 69 #[v] w fun e w' => ∃ v', e = .returned v' ∧ Row kR 79 w' w.heap.size v' (recs0 b n) ∧ Below w.heap.size w w' := by
  obtain ⟨a, c, rfl, hl, hcap⟩ := h
  go_enter Tryz.func69, Tryz.ntmps69
  go_wp2
  go_loopw [4, 3] (fun i u wr => ∃ k : Nat, k ≤ n ∧ i = .int .i64 ((6 * k : Nat) : Int) ∧ Row kR 79 wr w.heap.size u (recs0 b k) ∧ Below w.heap.size w wr) (fun i _ _ => 6 * n - (intOf i).toNat)
  case atStart => exact ⟨0, Nat.zero_le _, rfl, .nil, Below.refl _ _⟩
  case round =>
    obtain ⟨k, hk, rfl, hrow, hbel⟩ := hrel
    by_cases hlt : k < n
    · obtain ⟨q, hq⟩ : ∃ q, q = 6 * k := ⟨_, rfl⟩
      rw [← hq]
      have Hq := hid hq
      have hq6 : q + 6 ≤ b.length := by omega
      have hq6' : (q : Int) + 6 ≤ b.length := by omega
      have hq7 : (q : Int) < b.length := by omega
      have hqc : (q : Int) + 6 ≤ c := by omega
      obtain ⟨a2, c2, rfl, hrow2, -⟩ := row_at hrow
      have hlw := hl.below hbel
      obtain ⟨g, off, rfl, hg0, f0⟩ := byte_cell hl (i := q) (by omega)
      clear hq
      obtain ⟨g', off', hgo, -, f1⟩ := byte_cell hl (i := q + 1) (by omega)
      cases hgo
      obtain ⟨g', off', hgo, -, f2⟩ := byte_cell hl (i := q + 2) (by omega)
      cases hgo
      have hg : g < wr.heap.size := Nat.lt_of_lt_of_le hg0 hbel.size
      have hcells : ∀ X : World, Below w.heap.size w X → X.cell? ⟨g, off + q, none⟩ = some (.int .u8 (b.getD q 0)) ∧ X.cell? ⟨g, off + q + 1, none⟩ = some (.int .u8 (b.getD (q + 1) 0)) ∧ X.cell? ⟨g, off + q + 2, none⟩ = some (.int .u8 (b.getD (q + 2) 0)) := fun X hX =>
        ⟨(hX.cell (p := ⟨g, _, none⟩) hg0).trans f0, (hX.cell (p := ⟨g, _, none⟩) hg0).trans f1, (hX.cell (p := ⟨g, _, none⟩) hg0).trans f2⟩
      obtain ⟨e0, e1, e2⟩ := hcells wr hbel
      clear f0 f1 f2
      have y0 := hb.at q
      have y1 := hb.at (q + 1)
      have y2 := hb.at (q + 2)
      have y3 := hb.at (q + 3)
      have y4 := hb.at (q + 4)
      have y5 := hb.at (q + 5)
      have hpart : (b.drop (q + 3)).take 3 = [b.getD (q + 3) 0, b.getD (q + 4) 0, b.getD (q + 5) 0] := part3 (by omega)
      have hl3 : Lies kB wr (some ⟨g, off + q + 3, none⟩) (c - q - 3) [b.getD (q + 3) 0, b.getD (q + 4) 0, b.getD (q + 5) 0] := by
        rw [← hpart, Nat.add_assoc off q 3]; exact lies_part hlw (by omega)
      have hl3' : ∀ X : World, X.heap = wr.heap → At kB X (.slice (some ⟨g, off + q + 3, none⟩) 3 (c - q - 3)) [b.getD (q + 3) 0, b.getD (q + 4) 0, b.getD (q + 5) 0] := fun X hX => ⟨_, _, rfl, hl3.keep (by rw [hX]; exact Nat.le_refl _) fun _ _ _ => by rw [hX]⟩
      obtain ⟨x, hx⟩ : ∃ x, Hid (x = 65536 * b.getD (q + 3) 0 + 256 * b.getD (q + 4) 0 + b.getD (q + 5) 0) := ⟨_, rfl⟩
      have hread : ∀ X : World, X.heap = wr.heap → Calls Tryz.prog 71 #[.slice (some ⟨g, off + q + 3, none⟩) 3 (c - q - 3)] X fun e w' => e = .returned (.int .i64 x) ∧ w' = X := fun X hX => by
        have := read_any _ _ X (hl3' X hX) (fun z hz => by simp at hz; rcases hz with rfl | rfl | rfl <;> assumption) (by simp)
        have hxe : ([b.getD (q + 3) 0, b.getD (q + 4) 0, b.getD (q + 5) 0].foldl (fun n x => n * 256 + x) 0) = x := by rw [hx.out]; simp; omega
        rw [hxe] at this
        exact this
      have hrec : Hid (decAt b q = ⟨b.getD q 0, b.getD (q + 1) 0, b.getD (q + 2) 0, x⟩) := by unfold decAt; rw [hx.out]; exact hid rfl
      have hsucc : Hid (recs0 b (k + 1) = recs0 b k ++ [⟨b.getD q 0, b.getD (q + 1) 0, b.getD (q + 2) 0, x⟩]) := by rw [recs0_succ, ← Hq.out, hrec.out]; exact hid rfl
      have hlen : (recs0 b k).length ≤ 1000 := by rw [recs0_length]; omega
      have hnn : k + 1 ≤ n := by omega
      have Hn := hid hn
      have hbl : b.length ≤ 6000 := by omega
      have hql : q ≤ 6000 := by omega
      have z0 : IntKind.i64.wrap (b.getD q 0) = b.getD q 0 := wrap64' (by omega) (by omega)
      have z1 : IntKind.i64.wrap (b.getD (q + 1) 0) = b.getD (q + 1) 0 := wrap64' (by omega) (by omega)
      have z2 : IntKind.i64.wrap (b.getD (q + 2) 0) = b.getD (q + 2) 0 := wrap64' (by omega) (by omega)
      clear hl3 hl3' hpart hlw hl hrow y3 y4 y5 hx hrec hn
      generalize b.getD q 0 = x0 at *
      generalize b.getD (q + 1) 0 = x1 at *
      generalize b.getD (q + 2) 0 = x2 at *
      generalize recs0 b k = C at *
      go_upto_region 6 with fail
      rw [show q + 6 - q = 6 by omega]
      have hc3 : ¬ (c - q = 3) := by omega
      have hone0 : Lies kR (wr.alloc (.cells #[.int .i64 x0, .int .i64 x1, .int .i64 x2, .int .i64 x] 79)) (some ⟨wr.heap.size, 0, none⟩) 1 [⟨x0, x1, x2, x⟩] := by
        refine lies_one (heap_alloc_at _ _ _ rfl) ?_ 1
        rfl
      have hone := hone0.drew
      have hrow3 : Row kR 79 (wr.alloc (.cells #[.int .i64 x0, .int .i64 x1, .int .i64 x2, .int .i64 x] 79)).drew w.heap.size (.slice a2 C.length c2) C := Row.drew (Row.alloc hrow2 _)
      have hbel3 : Below w.heap.size w (wr.alloc (.cells #[.int .i64 x0, .int .i64 x1, .int .i64 x2, .int .i64 x] 79)).drew := (bel_alloc hbel _).drew
      have hc3' : C.length + [(⟨x0, x1, x2, x⟩ : Rc)].length ≤ maxLen := by simp [maxLen]; omega
      have hc4' : (C.length + [(⟨x0, x1, x2, x⟩ : Rc)].length) * 32 ≤ 140737488355328 := by simp; omega
      have hc5' : w.heap.size ≤ (wr.alloc (.cells #[.int .i64 x0, .int .i64 x1, .int .i64 x2, .int .i64 x] 79)).drew.heap.size := by have := hbel.size; simp; omega
      go_region_held3 (fun X => X.cell? ⟨g, off + q, none⟩ = some (.int .u8 x0) ∧ X.cell? ⟨g, off + q + 1, none⟩ = some (.int .u8 x1) ∧ X.cell? ⟨g, off + q + 2, none⟩ = some (.int .u8 x2))
        (first | exact ⟨e0, e1, e2⟩ | exact ⟨(World.cell?_alloc_past _ _ _ hg).trans e0, (World.cell?_alloc_past _ _ _ hg).trans e1, (World.cell?_alloc_past _ _ _ hg).trans e2⟩ | exact hcells _ hb2)
        (first
          | (go_at_call 71; refine (hread wr.drew rfl).mono ?_; rintro e w1 ⟨rfl, rfl⟩)
          | (refine step_append elemR _ rfl (.tmp 17) (.tmp 34) rfl w.heap.size (.slice a2 C.length c2) C rfl hrow3 (some ⟨_, 0, none⟩) 1 1 [⟨x0, x1, x2, x⟩] rfl rfl hone hc3' hc4' hc5' ?_
             intro v1 w2 hown hgrow hat _
             have hb2 : Below w.heap.size w w2 := below_grown (K := kR) (e := 79) (base := w.heap.size) (L := C) hbel3 hgrow hrow3 (Nat.le_refl _) hc5')
          | fail)
      go_wp2_with fail
      go_roundw
      case rel => exact ⟨k + 1, by omega, by have := Hq.out; go_num, by rw [hsucc.out]; exact hown, hb2⟩
      case measure => have := Hn.out; have := Hq.out; simp [intOf]; omega
    · have hke : k = n := by omega
      subst hke
      have hng : ¬ (((6 * k : Nat) : Int) < b.length) := by omega
      go_wp2_with fail
      go_ret
      exact ⟨_, rfl, hrow, hbel⟩
theorem srt_of_adj : ∀ {L : List Rc}, (∀ j, j + 1 < L.length → gtB (L.getD j zR) (L.getD (j + 1) zR) = false) → Srt L
 | [], _ => srt_nil
 | [x], _ => List.pairwise_singleton _ _
 | x :: y :: r, h => by
  have ih : Srt (y :: r) := srt_of_adj fun j hj => by
   have := h (j + 1) (by simp at hj ⊢; omega)
   simpa using this
  have hxy : gtB x y = false := by have := h 0 (by simp); simpa using this
  refine List.pairwise_cons.2 ⟨fun z hz => ?_, ih⟩
  rcases List.mem_cons.1 hz with rfl | hz
  ·exact hxy
  ·exact gtB_trans hxy ((List.pairwise_cons.1 ih).1 z hz)
def srtB (L : List Rc) : Bool := sameL L (sortR L)
theorem srtB_true {L : List Rc} (h : Srt L) : srtB L = true := sameL_true.2 (sort_of_srt h).symm
theorem srtB_false {L : List Rc} {j : Nat} (hj : j + 1 < L.length) (h : gtB (L.getD j zR) (L.getD (j + 1) zR) = true) : srtB L = false := by
 cases hb : srtB L
 ·rfl
 ·have := sameL_true.1 hb
  have hs : Srt L := by rw [this]; exact sort_srt L
  have := hs.at (i := j) (j := j + 1) (by omega) hj
  rw [h] at this; cases this
theorem lies_eight {w : World} {a : Option Addr} {cap : Nat} {L : List Rc} (h : Lies kR w a cap L) {i j : Nat} (hi : i < L.length) (hj : j < L.length) : ∃ g off, a = some ⟨g, off, none⟩ ∧ g < w.heap.size ∧
  (w.cell? ⟨g, off + i * 4, none⟩ = some (.int .i64 (L.getD i zR).sh) ∧ w.cell? ⟨g, off + i * 4 + 1, none⟩ = some (.int .i64 (L.getD i zR).au) ∧ w.cell? ⟨g, off + i * 4 + 2, none⟩ = some (.int .i64 (L.getD i zR).k) ∧ w.cell? ⟨g, off + i * 4 + 3, none⟩ = some (.int .i64 (L.getD i zR).m)) ∧
  (w.cell? ⟨g, off + j * 4, none⟩ = some (.int .i64 (L.getD j zR).sh) ∧ w.cell? ⟨g, off + j * 4 + 1, none⟩ = some (.int .i64 (L.getD j zR).au) ∧ w.cell? ⟨g, off + j * 4 + 2, none⟩ = some (.int .i64 (L.getD j zR).k) ∧ w.cell? ⟨g, off + j * 4 + 3, none⟩ = some (.int .i64 (L.getD j zR).m)) := by
 obtain ⟨b, off, rfl, hb, h1⟩ := rc_cells h hi
 obtain ⟨b', off', h2, -, h3⟩ := rc_cells h hj
 cases h2
 exact ⟨b, off, rfl, hb, h1, h3⟩
theorem isSorted_any (L : List Rc) (v : Value) (w : World) (h : At kR w v L) (hN : L.length ≤ 1000000000000000) :
  Calls Tryz.prog 72 #[v, .func (.func 73) #[] #[]] w fun e w' => e = .returned (.bool (srtB L)) ∧ Below w.heap.size w w' := by
 obtain ⟨a, c, rfl, hl⟩ := h
 go_enter Tryz.func72, Tryz.ntmps72
 go_wp2
 go_loopw [5] (fun i wr => ∃ k : Nat, (k ≤ L.length ∧ (k = 0 → L.length = 0)) ∧ i = .int .i64 ((k : Int) - 1) ∧ Hid (∀ j, k ≤ j + 1 → j + 1 < L.length → gtB (L.getD j zR) (L.getD (j + 1) zR) = false) ∧ Below w.heap.size w wr) (fun i _ => ((intOf i) + 1).toNat)
 case atStart => exact ⟨L.length, ⟨Nat.le_refl _, fun h => h⟩, by go_num, fun j h1 h2 => by omega, Below.refl _ _⟩
 case round =>
  obtain ⟨k, ⟨hk, hk0⟩, rfl, hadj, hb⟩ := hrel
  by_cases hlt : 1 < k
  ·obtain ⟨r, rfl⟩ : ∃ r, k = r + 2 := ⟨k - 2, by omega⟩
   have hI : ((r + 2 : Nat) : Int) - 1 = (r : Int) + 1 := by omega
   rw [hI]
   have hgt : 0 < (r : Int) + 1 := by omega
   obtain ⟨g, off, rfl, hg, ⟨c1, c2, c3, c4⟩, d1, d2, d3, d4⟩ := lies_eight (hl.below hb) (i := r + 1) (j := r) (by omega) (by omega)
   obtain ⟨x, hx⟩ : ∃ x, Hid (L.getD (r + 1) zR = x) := ⟨_, rfl⟩
   obtain ⟨y, hy⟩ : ∃ y, Hid (L.getD r zR = y) := ⟨_, rfl⟩
   rw [hx.out] at c1 c2 c3 c4
   rw [hy.out] at d1 d2 d3 d4
   have hI0 : (0 : Int) ≤ (r : Int) + 1 := by omega
   have hI1 : (r : Int) + 1 < L.length := by omega
   have hI2 : (r : Int) < L.length := by omega
   have hI3 : r < L.length := by omega
   have hW1 : IntKind.i64.wrap ((r : Int) + 1 - 1) = r := by rw [Int.add_sub_cancel]; simp [IntKind.wrap, IntKind.bits, IntKind.signed]; omega
   have hW2 : IntKind.i64.wrap (r : Int) = r := by simp [IntKind.wrap, IntKind.bits, IntKind.signed]; omega
   obtain ⟨o, ho⟩ : ∃ o, Hid (ordR x y = o) := ⟨_, rfl⟩
   have hord : ∀ W : World, Calls Tryz.prog 73 #[rv x, rv y] W fun e w' => e = .returned (.int .i64 o) ∧ Below W.heap.size W w' := fun W => by rw [← ho.out]; exact order_any x y W
   unfold rv at hord
   clear hI
   go_upto_region 4 with fail
   go_region_held3 (fun X => X.cell? ⟨g, off + (r + 1) * 4, none⟩ = some (.int .i64 x.sh) ∧ X.cell? ⟨g, off + (r + 1) * 4 + 1, none⟩ = some (.int .i64 x.au) ∧ X.cell? ⟨g, off + (r + 1) * 4 + 2, none⟩ = some (.int .i64 x.k) ∧ X.cell? ⟨g, off + (r + 1) * 4 + 3, none⟩ = some (.int .i64 x.m) ∧
     X.cell? ⟨g, off + r * 4, none⟩ = some (.int .i64 y.sh) ∧ X.cell? ⟨g, off + r * 4 + 1, none⟩ = some (.int .i64 y.au) ∧ X.cell? ⟨g, off + r * 4 + 2, none⟩ = some (.int .i64 y.k) ∧ X.cell? ⟨g, off + r * 4 + 3, none⟩ = some (.int .i64 y.m))
    (first | exact ⟨c1, c2, c3, c4, d1, d2, d3, d4⟩ | exact ⟨(hb2.cell (p := ⟨g, _, none⟩) hg).trans c1, (hb2.cell (p := ⟨g, _, none⟩) hg).trans c2, (hb2.cell (p := ⟨g, _, none⟩) hg).trans c3, (hb2.cell (p := ⟨g, _, none⟩) hg).trans c4, (hb2.cell (p := ⟨g, _, none⟩) hg).trans d1, (hb2.cell (p := ⟨g, _, none⟩) hg).trans d2, (hb2.cell (p := ⟨g, _, none⟩) hg).trans d3, (hb2.cell (p := ⟨g, _, none⟩) hg).trans d4⟩)
    ((go_at_call 73; refine (hord _).mono ?_; rintro e w1 ⟨rfl, hb1⟩; have hb2 : Below wr.heap.size wr w1 := (Below.refl wr.heap.size wr).drew.trans hb1; clear hb1))
   have hbw : Below w.heap.size w w1 := hb.trans (hb2.mono hb.size)
   clear hord hb2
   by_cases ho0 : o < 0
   ·have hgt2 : gtB (L.getD r zR) (L.getD (r + 1) zR) = true := by rw [hx.out, hy.out]; exact ord_neg.1 (by rw [ho.out]; exact ho0)
    have hE := hid (srtB_false (by omega) hgt2)
    clear hgt2
    go_wp2_with fail
    go_ret
    exact ⟨ret_bool hE.out.symm, hbw⟩
   ·have hgt2 : gtB (L.getD r zR) (L.getD (r + 1) zR) = false := by rw [hx.out, hy.out]; exact ord_pos.1 (by rw [ho.out]; exact ho0)
    have hnew : Hid (∀ j, r + 1 ≤ j + 1 → j + 1 < L.length → gtB (L.getD j zR) (L.getD (j + 1) zR) = false) := hid fun j h1 h2 => by
     by_cases hj : j = r
     ·subst hj; exact hgt2
     ·exact hadj.out j (by omega) h2
    clear hgt2
    go_wp2_with fail
    go_roundw
    case rel => exact ⟨r + 1, ⟨by omega, fun h => by omega⟩, by go_num, hnew, hbw⟩
    case measure => simp [intOf]; omega
  ·have hng : ¬ (0 < (k : Int) - 1) := by omega
   have hE := hid (srtB_true (srt_of_adj (L := L) fun j hj => hadj.out j (by omega) hj))
   go_wp2_with fail
   go_ret
   exact ⟨ret_bool hE.out.symm, hb⟩
end Go.Proofs.YtofcnebekmjdoaaGreatDoor.Dy
