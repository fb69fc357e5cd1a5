/- The walk of alive. -/
import Derived.Test.YtkkgojdefjoajabDyn
import Derived.Test.YtkkgojdefjoajabDyo
namespace Go.Proofs.Ytkkgojdefjoajab.Dy
open Go.RowKit Go.Proofs.Ytkkgojdefjoajab.Gn

theorem lies_block {α : Type} {K : Kind α} {w : World} {b : Nat} {L : List α} {t : TypeId} {cs : Array Value} (h : w.heap[b]? = some (.cells cs t)) (hc : cs.toList = K.flat L) (hl : L.length ≤ maxLen) (c : Nat) : Lies K w (some ⟨b, 0, none⟩) c L := by
  refine ⟨hl, (fun h => by cases h), Or.inr ⟨b, 0, rfl, lt_of_block h, fun j u hj => ?_⟩⟩
  rw [← hc] at hj
  rw [Nat.zero_add, cell_of_row w b j cs t _ h]
  simpa using hj
theorem file_byt {l : List Rc} (h : Right l) : Byt (fileB l) := by
  have h1 := h.few
  have h2 := total_small h
  intro x hx
  unfold fileB at hx
  rw [List.mem_append, List.mem_cons] at hx
  rcases hx with (rfl | hx) | hx
  · omega
  · obtain ⟨r, hr, hx⟩ := List.mem_flatMap.1 hx
    have hr1 := h.each r (mem_sort.1 hr)
    have a := hr1.1
    have b := hr1.2
    unfold noKind at a
    unfold far at b
    unfold enc at hx
    simp at hx
    rcases hx with rfl | rfl | rfl | rfl | rfl | rfl <;> omega
  · unfold tot4 at hx
    simp at hx
    rcases hx with rfl | rfl | rfl | rfl <;> omega

def L0 : List Rc := [⟨2, 1, 2, 50⟩, ⟨1, 3, 5, 20⟩]
theorem right0 : Right L0 := by
  refine ⟨by decide, fun r hr => ?_⟩
  unfold L0 at hr
  simp at hr
  rcases hr with rfl | rfl <;> (unfold noKind far; dsimp only; omega)
theorem sort0 : sortR L0 = [⟨1, 3, 5, 20⟩, ⟨2, 1, 2, 50⟩] := by rfl
theorem net0 : net 1 (sortR L0) = -20 := by rw [sort0]; rfl
theorem len0 : (fileB L0).length = 17 := by rw [file_length]; rfl

theorem alive_facts : ∃ (L S : List Rc) (fb : List Int), fb.length = 17 ∧ S.length = 2 ∧ (S.getD 0 zR).sh = 1 ∧
    (∀ w : World, Lies kR (w.alloc (.cells #[.int .i64 2, .int .i64 1, .int .i64 2, .int .i64 50, .int .i64 1, .int .i64 3, .int .i64 5, .int .i64 20] 87)) (some ⟨w.heap.size, 0, none⟩) 2 L) ∧
    (∀ (X : World) (b : Nat), Lies kR X (some ⟨b, 0, none⟩) 2 L → Calls Try.prog 40 #[.slice (some ⟨b, 0, none⟩) 2 2] X fun e w' => ∃ v', e = .returned (.tuple #[v', .agg #[.int .i64 0, .int .i64 0]]) ∧ Row kB 5 w' X.heap.size v' fb ∧ Below X.heap.size X w') ∧
    (∀ (X : World) (v : Value), AtC kB X v fb → Calls Try.prog 49 #[v] X fun e w' => ∃ v', e = .returned (.tuple #[v', .int .i64 0]) ∧ Row kR 87 w' X.heap.size v' S ∧ Below X.heap.size X w') ∧
    (∀ (X : World) (v : Value), At kR X v S → Calls Try.prog 47 #[v, .int .i64 1] X fun e w' => e = .returned (.int .i64 (-20)) ∧ Below X.heap.size X w') := by
  refine ⟨L0, sortR L0, fileB L0, len0, by rw [sort_length]; rfl, by rw [sort0]; rfl, fun w => ?_, fun X b h => ?_, fun X v h => ?_, fun X v h => ?_⟩
  · refine lies_block (heap_alloc_at _ _ _ rfl) ?_ (by decide) 2
    rfl
  · have := bytes_any L0 (.slice (some ⟨b, 0, none⟩) 2 2) X ⟨_, _, rfl, h⟩
    rw [bytes_ok (wrong_ok.2 right0)] at this
    exact this
  · have := parse_any (fileB L0) v X h (file_byt right0)
    rw [turns right0] at this
    exact this
  · have := net_any (sortR L0) v 1 X h right0.sort
    rw [net0] at this
    exact this

set_option maxHeartbeats 1600000 in
theorem alive_any (w : World) : Calls Try.prog 51 #[] w fun e w' => e = .returned (.bool true) ∧ Below w.heap.size w w' := by
  obtain ⟨L, S, fb, hlen, hlen3, hsh, hl0, hby, hpa, hne⟩ := alive_facts
  have hl0 := hl0 w
  have b0 : Below w.heap.size w (w.alloc (.cells #[.int .i64 2, .int .i64 1, .int .i64 2, .int .i64 50, .int .i64 1, .int .i64 3, .int .i64 5, .int .i64 20] 87)) := below_alloc _ _
  have Hlen := hid hlen
  have Hlen3 := hid hlen3
  have Hsh := hid hsh
  clear hlen hlen3 hsh
  go_enter Try.func51, Try.ntmps51
  go_upto_region 2 with (go_at_call 40; refine (hby _ _ hl0).mono ?_; rintro e w1 ⟨v1, rfl, hr1, hb1⟩)
  have hb2 : Below w.heap.size w (w1.alloc (.cells #[.int .i64 0, .int .i64 0] 44)) := bel_alloc (b0.trans (hb1.mono b0.size)) _
  have hr2 := hr1.alloc (.cells #[.int .i64 0, .int .i64 0] 44)
  have hF : (w1.alloc (.cells #[.int .i64 0, .int .i64 0] 44)).heap[w1.heap.size]? = some (.cells #[.int .i64 0, .int .i64 0] 44) := heap_alloc_at _ _ _ rfl
  generalize w1.alloc (.cells #[.int .i64 0, .int .i64 0] 44) = W2 at *
  have hz : w1.heap.size < W2.heap.size := lt_of_block hF
  generalize w1.heap.size = Z at *
  obtain ⟨a1, c1, rfl, hl1, hc1⟩ := Row.atC hr2
  clear hl0 hby hr1 hr2 hb1 b0
  go_upto_region 3 with (go_at_call 49; refine (hpa _ _ ⟨a1, c1, rfl, hl1, hc1⟩).mono ?_; rintro e w3 ⟨v3, rfl, hr3, hb3⟩)
  have hF3 := (hb3.block _ hz).trans hF
  have hb4 : Below w.heap.size w w3 := hb2.trans (hb3.mono hb2.size)
  obtain ⟨a3, c3, rfl, hl3⟩ := Row.at hr3
  obtain ⟨g, off, rfl, hg, q1, -⟩ := rc_cells hl3 (i := 0) (by have := Hlen3.out; omega)
  rw [Hsh.out, Nat.zero_mul, Nat.add_zero] at q1
  have F0 : w3.cell? ⟨Z, 0, none⟩ = some (.int .i64 0) := by simp [World.cell?, hF3]
  have hne3 : Calls Try.prog 47 #[.slice (some ⟨g, off, none⟩) S.length c3, .int .i64 1] w3 fun e w' => e = .returned (.int .i64 (-20)) ∧ Below w3.heap.size w3 w' := hne w3 _ ⟨_, _, rfl, hl3⟩
  clear hne hpa hr3 hl3 hl1 hF hF3 hb2 hb3
  rw [Hlen3.out] at hne3 ⊢
  rw [Hlen.out]
  go_wp2_with (go_at_call 47; refine hne3.mono ?_; rintro e w5 ⟨rfl, hb5⟩)
  go_ret
  exact ⟨rfl, hb4.trans (hb5.mono hb4.size)⟩
end Go.Proofs.Ytkkgojdefjoajab.Dy
