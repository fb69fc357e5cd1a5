/- The walk of records. -/
import Derived.Test.YtodkcagingnelabDyk
namespace Go.Proofs.Ytodkcagingnelab.Dy
open Go.RowKit Go.Proofs.Ytodkcagingnelab.Gn

/-- A slice value that lies in memory as a list, within its room. -/
def AtC {α : Type} (K : Kind α) (W : World) (v : Value) (L : List α) : Prop := ∃ a cap, v = .slice a L.length cap ∧ Lies K W a cap L ∧ L.length ≤ cap
theorem AtC.at {α : Type} {K : Kind α} {W : World} {v : Value} {L : List α} (h : AtC K W v L) : At K W v L := by
  obtain ⟨a, cap, rfl, hl, -⟩ := h
  exact ⟨a, cap, rfl, hl⟩
theorem AtC.below {α : Type} {K : Kind α} {W W' : World} {v : Value} {L : List α} (h : AtC K W v L) (hb : Below W.heap.size W W') : AtC K W' v L := by
  obtain ⟨a, cap, rfl, hl, hc⟩ := h
  exact ⟨a, cap, rfl, hl.below hb, hc⟩
theorem Row.atC {α : Type} {K : Kind α} {e : TypeId} {W : World} {base : Nat} {v : Value} {L : List α} (h : Row K e W base v L) : AtC K W v L := by
  rcases h with ⟨rfl, rfl⟩ | h | ⟨g, rfl, hg, hl, hlt⟩
  · exact ⟨none, 0, rfl, lies_nil K W, Nat.le_refl _⟩
  · obtain ⟨a, cap, h1, h2, -⟩ := lies_of_owns h
    refine ⟨a, cap, h1, h2, ?_⟩
    rcases h.2 with ⟨h3, hn⟩ | ⟨g, cap', cur, h3, hg, hh, hn, hm, hc, hx⟩
    · omega
    · rw [h3] at h1; cases h1; exact hn
  · exact ⟨_, _, rfl, hl, Nat.le_refl _⟩
/-- A part of a list of bytes. -/
theorem lies_part {w : World} {g off cap c : Nat} {L : List Int} (h : Lies kB w (some ⟨g, off, none⟩) cap L) {lo m : Nat} (hm : lo + m ≤ L.length) : Lies kB w (some ⟨g, off + lo, none⟩) c ((L.drop lo).take m) := by
  refine ⟨by have := h.len; simp; omega, (fun h => by cases h), ?_⟩
  rcases h.at' with h0 | ⟨b, o, ha, hlt, hc⟩
  · subst h0; simp
  · cases ha
    refine Or.inr ⟨_, _, rfl, hlt, fun j u hj => ?_⟩
    rw [kB_flat] at hj
    have hj2 : ((L.drop lo).take m)[j]? = (L[lo + j]?) ∧ lo + j < L.length := by
      have hjl : j < (((L.drop lo).take m).map fun x => Value.int .u8 x).length := (List.getElem?_eq_some_iff.1 hj).1
      simp at hjl
      refine ⟨?_, by omega⟩
      rw [List.getElem?_take, if_pos (by omega), List.getElem?_drop]
    rw [List.getElem?_map, hj2.1] at hj
    have := hc (lo + j) u (by rw [kB_flat, List.getElem?_map]; exact hj)
    rw [Nat.add_assoc]; exact this

theorem part3 {b : List Int} {q : Nat} (h : q + 6 ≤ b.length) : (b.drop (q + 3)).take 3 = [b.getD (q + 3) 0, b.getD (q + 4) 0, b.getD (q + 5) 0] := by
  apply List.ext_getElem?
  intro i
  rw [List.getElem?_take, List.getElem?_drop]
  by_cases hi : i < 3
  · rw [if_pos hi]
    obtain rfl | rfl | rfl : i = 0 ∨ i = 1 ∨ i = 2 := by omega
    · simp [List.getD, show q + 3 < b.length by omega]
    · simp [List.getD, show q + 3 + 1 < b.length by omega]
    · simp [List.getD, show q + 3 + 2 < b.length by omega]
  · rw [if_neg hi, List.getElem?_eq_none (by simp; omega)]
def recs0 (b : List Int) (n : Nat) : List Rc := (List.range n).map fun i => decAt b (6 * i)
theorem recs0_length (b : List Int) (n : Nat) : (recs0 b n).length = n := by simp [recs0]
theorem recs0_succ (b : List Int) (n : Nat) : recs0 b (n + 1) = recs0 b n ++ [decAt b (6 * n)] := by simp [recs0, List.range_succ]

set_option maxHeartbeats 4000000 in
theorem records_any (b : List Int) (n : Nat) (v : Value) (w : World) (h : AtC kB w v b) (hb : Byt b) (hn : b.length = 6 * n) (hn2 : n ≤ 1000) :
    Calls Try.prog 75 #[v] w fun e w' => ∃ v', e = .returned v' ∧ Row kR 87 w' w.heap.size v' (recs0 b n) ∧ Below w.heap.size w w' := by
  obtain ⟨a, c, rfl, hl, hcap⟩ := h
  go_enter Try.func75, Try.ntmps75
  go_wp2
  go_loopw [4, 3] (fun i u wr => ∃ k : Nat, k ≤ n ∧ i = .int .i64 ((6 * k : Nat) : Int) ∧ Row kR 87 wr w.heap.size u (recs0 b k) ∧ Below w.heap.size w wr) (fun i _ _ => 6 * n - (intOf i).toNat)
  case atStart => exact ⟨0, Nat.zero_le _, rfl, .nil, Below.refl _ _⟩
  case round =>
    obtain ⟨k, hk, rfl, hrow, hbel⟩ := hrel
    by_cases hlt : k < n
    · obtain ⟨q, hq⟩ : ∃ q, q = 6 * k := ⟨_, rfl⟩
      rw [← hq]
      have Hq := hid hq
      have hq6 : q + 6 ≤ b.length := by omega
      have hq6' : (q : Int) + 6 ≤ b.length := by omega
      have hq7 : (q : Int) < b.length := by omega
      have hqc : (q : Int) + 6 ≤ c := by omega
      obtain ⟨a2, c2, rfl, hrow2, -⟩ := row_at hrow
      have hlw := hl.below hbel
      obtain ⟨g, off, rfl, hg0, f0⟩ := byte_cell hl (i := q) (by omega)
      clear hq
      obtain ⟨g', off', hgo, -, f1⟩ := byte_cell hl (i := q + 1) (by omega)
      cases hgo
      obtain ⟨g', off', hgo, -, f2⟩ := byte_cell hl (i := q + 2) (by omega)
      cases hgo
      have hg : g < wr.heap.size := Nat.lt_of_lt_of_le hg0 hbel.size
      have hcells : ∀ X : World, Below w.heap.size w X → X.cell? ⟨g, off + q, none⟩ = some (.int .u8 (b.getD q 0)) ∧ X.cell? ⟨g, off + q + 1, none⟩ = some (.int .u8 (b.getD (q + 1) 0)) ∧ X.cell? ⟨g, off + q + 2, none⟩ = some (.int .u8 (b.getD (q + 2) 0)) := fun X hX =>
        ⟨(hX.cell (p := ⟨g, _, none⟩) hg0).trans f0, (hX.cell (p := ⟨g, _, none⟩) hg0).trans f1, (hX.cell (p := ⟨g, _, none⟩) hg0).trans f2⟩
      obtain ⟨e0, e1, e2⟩ := hcells wr hbel
      clear f0 f1 f2
      have y0 := hb.at q
      have y1 := hb.at (q + 1)
      have y2 := hb.at (q + 2)
      have y3 := hb.at (q + 3)
      have y4 := hb.at (q + 4)
      have y5 := hb.at (q + 5)
      have hpart : (b.drop (q + 3)).take 3 = [b.getD (q + 3) 0, b.getD (q + 4) 0, b.getD (q + 5) 0] := part3 (by omega)
      have hl3 : Lies kB wr (some ⟨g, off + q + 3, none⟩) (c - q - 3) [b.getD (q + 3) 0, b.getD (q + 4) 0, b.getD (q + 5) 0] := by
        rw [← hpart, Nat.add_assoc off q 3]; exact lies_part hlw (by omega)
      have hl3' : ∀ X : World, X.heap = wr.heap → At kB X (.slice (some ⟨g, off + q + 3, none⟩) 3 (c - q - 3)) [b.getD (q + 3) 0, b.getD (q + 4) 0, b.getD (q + 5) 0] := fun X hX => ⟨_, _, rfl, hl3.keep (by rw [hX]; exact Nat.le_refl _) fun _ _ _ => by rw [hX]⟩
      obtain ⟨x, hx⟩ : ∃ x, Hid (x = 65536 * b.getD (q + 3) 0 + 256 * b.getD (q + 4) 0 + b.getD (q + 5) 0) := ⟨_, rfl⟩
      have hread : ∀ X : World, X.heap = wr.heap → Calls Try.prog 76 #[.slice (some ⟨g, off + q + 3, none⟩) 3 (c - q - 3)] X fun e w' => e = .returned (.int .i64 x) ∧ w' = X := fun X hX => by
        have := read_any _ _ X (hl3' X hX) (fun z hz => by simp at hz; rcases hz with rfl | rfl | rfl <;> assumption) (by simp)
        have hxe : ([b.getD (q + 3) 0, b.getD (q + 4) 0, b.getD (q + 5) 0].foldl (fun n x => n * 256 + x) 0) = x := by rw [hx.out]; simp; omega
        rw [hxe] at this
        exact this
      have hrec : Hid (decAt b q = ⟨b.getD q 0, b.getD (q + 1) 0, b.getD (q + 2) 0, x⟩) := by unfold decAt; rw [hx.out]; exact hid rfl
      have hsucc : Hid (recs0 b (k + 1) = recs0 b k ++ [⟨b.getD q 0, b.getD (q + 1) 0, b.getD (q + 2) 0, x⟩]) := by rw [recs0_succ, ← Hq.out, hrec.out]; exact hid rfl
      have hlen : (recs0 b k).length ≤ 1000 := by rw [recs0_length]; omega
      have hnn : k + 1 ≤ n := by omega
      have Hn := hid hn
      have hbl : b.length ≤ 6000 := by omega
      have hql : q ≤ 6000 := by omega
      have z0 : IntKind.i64.wrap (b.getD q 0) = b.getD q 0 := wrap64' (by omega) (by omega)
      have z1 : IntKind.i64.wrap (b.getD (q + 1) 0) = b.getD (q + 1) 0 := wrap64' (by omega) (by omega)
      have z2 : IntKind.i64.wrap (b.getD (q + 2) 0) = b.getD (q + 2) 0 := wrap64' (by omega) (by omega)
      clear hl3 hl3' hpart hlw hl hrow y3 y4 y5 hx hrec hn
      generalize b.getD q 0 = x0 at *
      generalize b.getD (q + 1) 0 = x1 at *
      generalize b.getD (q + 2) 0 = x2 at *
      generalize recs0 b k = C at *
      go_upto_region 6 with fail
      rw [show q + 6 - q = 6 by omega]
      have hc3 : ¬ (c - q = 3) := by omega
      have hone0 : Lies kR (wr.alloc (.cells #[.int .i64 x0, .int .i64 x1, .int .i64 x2, .int .i64 x] 87)) (some ⟨wr.heap.size, 0, none⟩) 1 [⟨x0, x1, x2, x⟩] := by
        refine lies_one (heap_alloc_at _ _ _ rfl) ?_ 1
        rfl
      have hone := hone0.drew
      have hrow3 : Row kR 87 (wr.alloc (.cells #[.int .i64 x0, .int .i64 x1, .int .i64 x2, .int .i64 x] 87)).drew w.heap.size (.slice a2 C.length c2) C := Row.drew (Row.alloc hrow2 _)
      have hbel3 : Below w.heap.size w (wr.alloc (.cells #[.int .i64 x0, .int .i64 x1, .int .i64 x2, .int .i64 x] 87)).drew := (bel_alloc hbel _).drew
      have hc3' : C.length + [(⟨x0, x1, x2, x⟩ : Rc)].length ≤ maxLen := by simp [maxLen]; omega
      have hc4' : (C.length + [(⟨x0, x1, x2, x⟩ : Rc)].length) * 32 ≤ 140737488355328 := by simp; omega
      have hc5' : w.heap.size ≤ (wr.alloc (.cells #[.int .i64 x0, .int .i64 x1, .int .i64 x2, .int .i64 x] 87)).drew.heap.size := by have := hbel.size; simp; omega
      go_region_held3 (fun X => X.cell? ⟨g, off + q, none⟩ = some (.int .u8 x0) ∧ X.cell? ⟨g, off + q + 1, none⟩ = some (.int .u8 x1) ∧ X.cell? ⟨g, off + q + 2, none⟩ = some (.int .u8 x2))
        (first | exact ⟨e0, e1, e2⟩ | exact ⟨(World.cell?_alloc_past _ _ _ hg).trans e0, (World.cell?_alloc_past _ _ _ hg).trans e1, (World.cell?_alloc_past _ _ _ hg).trans e2⟩ | exact hcells _ hb2)
        (first
          | (go_at_call 76; refine (hread wr.drew rfl).mono ?_; rintro e w1 ⟨rfl, rfl⟩)
          | (refine step_append elemR _ rfl (.tmp 17) (.tmp 34) rfl w.heap.size (.slice a2 C.length c2) C rfl hrow3 (some ⟨_, 0, none⟩) 1 1 [⟨x0, x1, x2, x⟩] rfl rfl hone hc3' hc4' hc5' ?_
             intro v1 w2 hown hgrow hat _
             have hb2 : Below w.heap.size w w2 := below_grown (K := kR) (e := 87) (base := w.heap.size) (L := C) hbel3 hgrow hrow3 (Nat.le_refl _) hc5')
          | fail)
      go_wp2_with fail
      go_roundw
      case rel => exact ⟨k + 1, by omega, by have := Hq.out; go_num, by rw [hsucc.out]; exact hown, hb2⟩
      case measure => have := Hn.out; have := Hq.out; simp [intOf]; omega
    · have hke : k = n := by omega
      subst hke
      have hng : ¬ (((6 * k : Nat) : Int) < b.length) := by omega
      go_wp2_with fail
      go_ret
      exact ⟨_, rfl, hrow, hbel⟩
end Go.Proofs.Ytodkcagingnelab.Dy
