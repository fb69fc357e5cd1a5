/- The walks of the ledger: the two functions over one row of 58 sums. -/
import Derived.Test.YtabbjhibmeaaaaaWalkc
import Derived.Test.YtabbjhibmeaaaaaMathb
namespace Go.Proofs.Ytabbjhibmeaaaaa
open Go.RowKit

def row58 (f : Nat → Int) : Array Value := ((List.range 58).map fun i => Value.int .i64 (f i)).toArray

/-- Block S is a row of 58 sums. -/
def Sums (w : World) (S : Nat) (f : Nat → Int) : Prop := w.heap[S]? = some (.cells (row58 f) 44 (0, 0))

theorem row58_size (f : Nat → Int) : (row58 f).size = 58 := by simp [row58]
theorem row58_at (f : Nat → Int) (i : Nat) (h : i < 58) : (row58 f)[i]? = some (.int .i64 (f i)) := by simp [row58, h]
theorem row58_set (f : Nat → Int) (i : Nat) (v : Int) : (row58 f).setIfInBounds i (.int .i64 v) = row58 (upd f i v) := by
  apply Array.ext_getElem?
  intro j
  rw [Array.getElem?_setIfInBounds]
  by_cases hj : j < 58
  · rw [row58_at _ _ hj, row58_at _ _ hj, row58_size]
    unfold upd
    by_cases e : i = j
    · subst e; simp [hj]
    · simp [e, show ¬ j = i from fun h => e h.symm]
  · have h1 : ∀ g, (row58 g)[j]? = none := fun g => Array.getElem?_eq_none (by rw [row58_size]; omega)
    rw [h1, h1, row58_size]
    by_cases e : i = j
    · subst e; simp [hj]
    · simp [e]

theorem Sums.lt {w : World} {S : Nat} {f : Nat → Int} (h : Sums w S f) : S < w.heap.size := by
  rcases Nat.lt_or_ge S w.heap.size with hl | hl
  · exact hl
  · have := Array.getElem?_eq_none hl; unfold Sums at h; rw [this] at h; cases h
theorem Sums.cell {w : World} {S : Nat} {f : Nat → Int} (h : Sums w S f) {i : Nat} (hi : i < 58) : w.cell? ⟨S, i, none⟩ = some (.int .i64 (f i)) := by
  simp only [World.cell?]; rw [h]; simpa using row58_at f i hi
theorem Sums.frozen {w : World} {S : Nat} {f : Nat → Int} (h : Sums w S f) (i : Nat) : w.frozen? ⟨S, i, none⟩ = false := by
  simp only [World.frozen?]; rw [h]; simp
theorem Sums.set {w : World} {S : Nat} {f : Nat → Int} (h : Sums w S f) (i : Nat) (v : Int) : Sums (w.setCell ⟨S, i, none⟩ (.int .i64 v)) S (upd f i v) := by
  unfold Sums at *
  rw [heap_setCell_same w S i _ _ _ h, row58_set]
theorem Sums.below {w w' : World} {S B : Nat} {f : Nat → Int} (h : Sums w S f) (hb : Below B w w') (hB : S < B) : Sums w' S f := (hb.block S hB).trans h
theorem Sums.born (w : World) : Sums (w.alloc (.cells (row58 fun _ => 0) 44)) w.heap.size (fun _ => 0) := by
  show (w.heap.push _)[w.heap.size]? = _
  rw [Array.getElem?_push_size]

set_option maxHeartbeats 400000 in
theorem ledger_any (w : World) :
    Calls Try.prog 20 #[] w fun e w' => e = .returned (.tuple #[.func (.func 22) #[] #[.pointer (some ⟨w.heap.size, 0, none⟩)], .func (.func 23) #[] #[.pointer (some ⟨w.heap.size, 0, none⟩)]]) ∧
      Below w.heap.size w w' ∧ Sums w' w.heap.size (fun _ => 0) ∧ w'.heap.size = w.heap.size + 1 := by
  have hmf : ∀ (fn : Fn) (first cap : Array Value) (w : World), (Instr.makeFunc fn first cap).run Try.prog w = .ok (.func fn first cap) w := fun _ _ _ _ => rfl
  have hs := hid (Sums.born w)
  go_enter Try.func20, Try.ntmps20
  go_wp2
  go_ret2
  exact ⟨rfl, (Below.refl _ _).alloc (Nat.le_refl _) _, hs.out, by simp⟩

set_option maxHeartbeats 1000000 in
theorem add_any (x1 x2 : Int) (S : Nat) (f : Nat → Int) (w : World) (hs : Sums w S f) (i : Nat) (hx : x1 = i) (hi : i < 58) (f1 : -100000000000000 ≤ f i) (f2 : f i ≤ 100000000000000) (v1 : -1000000000000 ≤ x2) (v2 : x2 ≤ 1000000000000) :
    Calls Try.prog 22 #[.agg #[.int .i64 x1, .int .i64 x2], .pointer (some ⟨S, 0, none⟩)] w fun e w' =>
      e = .returned (.bool (inTot (f i + x2))) ∧ Below S w w' ∧ Sums w' S (upd f i (f i + x2)) := by
  subst hx
  have HS := hid hs
  have hlt := hs.lt
  have c0 := hs.cell hi
  have z0 := hs.frozen i
  generalize f i = y at *
  have c1 : ∀ o, (w.alloc o).cell? ⟨S, i, none⟩ = some (.int .i64 y) := fun o => (World.cell?_alloc_past _ _ _ hlt).trans c0
  have z1 : ∀ o, (w.alloc o).frozen? ⟨S, i, none⟩ = false := fun o => (World.frozen?_alloc_past _ _ _ hlt).trans z0
  clear hs
  go_enter Try.func22, Try.ntmps22
  go_wp2
  go_region
  go_wp2_with (go_at_call 21; refine (inTotal_any _ _).mono ?_; rintro e w' ⟨rfl, rfl⟩)
  go_ret
  refine ⟨rfl, (((Below.refl S w).setCell (Nat.le_refl _) _).alloc (by simp; omega) _).drew, ?_⟩
  exact (HS.out.set i (y + x2)).below ((Below.refl (S + 1) _).alloc (by simp; omega) _).drew (by omega)

theorem info_parts {P : Program} {e : TypeId} {z : Value} {size bytes : Nat} (h : (P.info? e).map (fun i => (i.zero, i.size, i.bytes)) = some (some z, size, bytes)) :
    ∃ i, P.info? e = some i ∧ i.zero = some z ∧ i.size = size ∧ i.bytes = bytes := by
  cases hi : P.info? e with
  | none => simp [hi] at h
  | some i => simp [hi] at h; exact ⟨i, rfl, h⟩
theorem info35 : (Try.prog.info? 35).map (fun i => (i.zero, i.size, i.bytes)) = some (some (.agg #[.int .i64 0, .int .i64 0]), 2, 16) := by kernel_rfl
theorem size44 : (Try.prog.info? 44).map (·.size) = some 58 := by kernel_rfl

def flat (L : List (Int × Int)) : List Value := L.flatMap fun e => [Value.int .i64 e.1, Value.int .i64 e.2]

theorem flat_snoc (L : List (Int × Int)) (e : Int × Int) : flat (L ++ [e]) = flat L ++ [Value.int .i64 e.1, Value.int .i64 e.2] := by simp [flat]

theorem index44 (f : Nat → Int) (k : Nat) (h : k < 58) (w : World) : (Instr.index 44 (.agg (row58 f)) (.int .i64 k)).run Try.prog w = .ok (.int .i64 (f k)) w := by
  simp [Instr.index, run_underlying Try.underlying44, asIntOf, go_sem, row58_at f k h]
  intro hc
  omega

theorem ownBlock_ge {w : World} {base : Nat} {e : TypeId} {size : Nat} {v : Value} {n : Nat} {xs : List Value} (h : w.ownsRow base e size v n xs) : ∀ k, v.ownBlock = some k → base ≤ k := by
  intro k hk
  rcases h.2 with ⟨rfl, -⟩ | ⟨g, cap, cur, rfl, hg, -⟩
  · cases hk
  · cases hk; exact hg

/-- What the call owns reads as a book. -/
theorem ents_of_owns {w : World} {base : Nat} {v : Value} {L : List (Int × Int)} (h : w.ownsRow base 35 2 v L.length (flat L)) : ∃ a cap, v = .slice a L.length cap ∧ Ents w a L := by
  obtain ⟨-, h⟩ := h
  rcases h with ⟨rfl, hn⟩ | ⟨g, cap, cur, rfl, hg, hh, hn, hm, hc, hx⟩
  · rw [hn]
    exact ⟨none, 0, rfl, by simp [maxLen, hn], Or.inl (List.eq_nil_of_length_eq_zero hn)⟩
  · have hlt : g < w.heap.size := by
      rcases Nat.lt_or_ge g w.heap.size with hl | hl
      · exact hl
      · rw [Array.getElem?_eq_none hl] at hh; cases hh
    have key : ∀ j u, (flat L)[j]? = some u → w.cell? ⟨g, j, none⟩ = some u := by
      intro j u hj
      simp only [World.cell?, hh]
      rw [← hx, List.getElem?_take] at hj
      split at hj
      · simpa using hj
      · cases hj
    refine ⟨some ⟨g, 0, none⟩, cap, rfl, Nat.le_trans hn hm, Or.inr ⟨g, 0, rfl, hlt, fun i hi => ?_⟩⟩
    have hfl : ∀ (M : List (Int × Int)) (i : Nat), i < M.length → (flat M)[i * 2]? = some (.int .i64 (M.getD i (0, 0)).1) ∧ (flat M)[i * 2 + 1]? = some (.int .i64 (M.getD i (0, 0)).2) := by
      intro M
      induction M with
      | nil => intro i hi; simp at hi
      | cons e r ih =>
        intro i hi
        cases i with
        | zero => simp [flat]
        | succ i =>
          have := ih i (by simpa using hi)
          have e1 : (i + 1) * 2 = i * 2 + 1 + 1 := by omega
          rw [e1]
          simpa [flat] using this
    obtain ⟨k1, k2⟩ := hfl L i hi
    rw [Nat.zero_add]
    exact ⟨key _ _ k1, key _ _ k2⟩

set_option maxHeartbeats 1000000 in
theorem listed_any (S : Nat) (f : Nat → Int) (w : World) (hs : Sums w S f) :
    Calls Try.prog 23 #[.pointer (some ⟨S, 0, none⟩)] w fun e w' =>
      ∃ v, e = .returned v ∧ w'.ownsRow w.heap.size 35 2 v (listE f 58).length (flat (listE f 58)) ∧ Below w.heap.size w w' := by
  obtain ⟨i0, hi, hz0, hz1, hz2⟩ := info_parts info35
  go_enter Try.func23, Try.ntmps23
  go_wp2_with (refine wpList_load_row rfl 44 _ rfl S rfl 44 _ (0, 0) _ hs Try.underlying44 rfl (by rw [row58_size]; exact size44) ?_)
  go_loopw [2, 6] (fun v i wr => ∃ k : Nat, k ≤ 58 ∧ i = .int .i64 k ∧ wr.ownsRow w.heap.size 35 2 v (listE f k).length (flat (listE f k)) ∧ Below w.heap.size w wr) (fun _ i _ => 58 - (intOf i).toNat)
  case atStart => exact ⟨0, by omega, rfl, World.ownsRow_nil _ _ _ _, Below.refl _ _⟩
  case round =>
    obtain ⟨k, hk, rfl, hown, hb⟩ := hrel
    by_cases hlt : k < 58
    · have hlt' : (k : Int) < 58 := by omega
      have hix := index44 f k hlt
      have hle := listE_le f k
      by_cases hz : f k = 0
      · have hz' : (f k != 0) = false := by simpa using hz
        have HM := hid (listE_miss f k hz)
        clear hz
        go_wp2
        go_roundw
        case rel => exact ⟨k + 1, by omega, by go_num, by rw [HM.out]; exact hown, hb⟩
        case measure => simp [intOf]; omega
      · have hz' : (f k != 0) = true := by simpa using hz
        have HM := hid (listE_hit f k hz)
        clear hz
        generalize f k = y at *
        go_wp2_with (at_builtin; refine wpList_append_own _ rfl _ _ 22 rfl w.heap.size 35 i0 (.agg #[.int .i64 0, .int .i64 0]) 2 16 Try.underlying22 hi hz0 hz1 hz2 rfl (by decide) _ _ _ rfl (hown.alloc _) ⟨wr.heap.size, 0, none⟩ 1 1 [.int .i64 k, .int .i64 y] rfl rfl ?c1 ?c2 ?c3 ?c4 ?c5 ?_)
        case c1 => exact cell_two_new _ _ _ _
        case c2 => intro u hu; simp at hu; rcases hu with rfl | rfl <;> rfl
        case c3 => unfold maxLen; omega
        case c4 => omega
        case c5 => have := hb.size; simp; omega
        intro v' w1 hown' hgrow _
        have hb' : Below w.heap.size w w1 := (hb.alloc hb.size _).grown hgrow (by have := hb.size; simp; omega) (ownBlock_ge hown)
        clear hgrow hown
        go_wp2
        go_roundw
        case rel => exact ⟨k + 1, by omega, by go_num, by rw [HM.out, flat_snoc, List.length_append]; exact hown', hb'⟩
        case measure => simp [intOf]; omega
    · have hk58 : k = 58 := by omega
      subst hk58
      go_wp2
      go_ret
      exact ⟨_, rfl, hown, hb⟩
end Go.Proofs.Ytabbjhibmeaaaaa
