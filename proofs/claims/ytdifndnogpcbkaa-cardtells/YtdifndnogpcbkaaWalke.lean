/- The walks of SameUses and of Recent. -/
import Derived.Test.YtdifndnogpcbkaaWalkc
namespace Go.Proofs.Ytdifndnogpcbkaa
open Go.RowKit

set_option maxHeartbeats 1000000 in
theorem same_any (a : Option Addr) (cap : Nat) (L : List (Int × Int)) (a2 : Option Addr) (cap2 : Nat) (w : World) (hl : Ents w a L) (hE : Ents w a2 L) :
    Calls Try.prog 40 #[.slice a L.length cap, .slice a2 L.length cap2] w fun e w' => e = .returned (.bool true) ∧ Below w.heap.size w w' := by
  obtain ⟨hm, hl⟩ := hl
  obtain ⟨-, hE⟩ := hE
  unfold maxLen at hm
  go_enter Try.func40, Try.ntmps40
  go_wp2
  go_loopw [13] (fun i wr => ∃ k : Nat, k ≤ L.length ∧ i = .int .i64 k ∧ Below w.heap.size w wr) (fun i _ => L.length - (intOf i).toNat)
  case atStart => exact ⟨0, Nat.zero_le _, rfl, Below.refl _ _⟩
  case round =>
    obtain ⟨k, hk, rfl, hb⟩ := hrel
    by_cases hlt : k < L.length
    · rcases hl with rfl | ⟨b, off, rfl, hbl, hcell⟩
      · simp at hlt
      rcases hE with rfl | ⟨b2, off2, rfl, hbl2, hcell2⟩
      · simp at hlt
      obtain ⟨c1, c2⟩ := hcell k hlt
      obtain ⟨c3, c4⟩ := hcell2 k hlt
      have hlt' : (k : Int) < L.length := by omega
      have e1 := (hb.cell (p := ⟨b, off + k * 2, none⟩) hbl).trans c1
      have e2 := (hb.cell (p := ⟨b, off + k * 2 + 1, none⟩) hbl).trans c2
      have e3 := (hb.cell (p := ⟨b2, off2 + k * 2, none⟩) hbl2).trans c3
      have e4 := (hb.cell (p := ⟨b2, off2 + k * 2 + 1, none⟩) hbl2).trans c4
      clear c1 c2 c3 c4 hcell hcell2
      generalize (L.getD k (0, 0)).1 = x1 at *
      generalize (L.getD k (0, 0)).2 = x2 at *
      go_wp2
      go_quiet (fail)
      go_wp2
      go_roundw
      case rel => exact ⟨k + 1, by omega, by go_num, below_drewN hb _⟩
      case measure => simp [intOf]; omega
    · go_wp2
      go_ret
      exact ⟨rfl, hb⟩

theorem info_parts {P : Program} {e : TypeId} {z : Value} {size bytes : Nat} (h : (P.info? e).map (fun i => (i.zero, i.size, i.bytes)) = some (some z, size, bytes)) :
    ∃ i, P.info? e = some i ∧ i.zero = some z ∧ i.size = size ∧ i.bytes = bytes := by
  cases hi : P.info? e with
  | none => simp [hi] at h
  | some i => simp [hi] at h; exact ⟨i, rfl, h⟩
theorem infoUse : (Try.prog.info? 58).map (fun i => (i.zero, i.size, i.bytes)) = some (some (.agg #[.int .i64 0, .int .i64 0]), 2, 16) := by kernel_rfl

def flat (L : List (Int × Int)) : List Value := L.flatMap fun e => [Value.int .i64 e.1, Value.int .i64 e.2]

theorem flat_snoc (L : List (Int × Int)) (e : Int × Int) : flat (L ++ [e]) = flat L ++ [Value.int .i64 e.1, Value.int .i64 e.2] := by simp [flat]

theorem ownBlock_ge {w : World} {base : Nat} {e : TypeId} {size : Nat} {v : Value} {n : Nat} {xs : List Value} (h : w.ownsRow base e size v n xs) : ∀ k, v.ownBlock = some k → base ≤ k := by
  intro k hk
  rcases h.2 with ⟨rfl, -⟩ | ⟨g, cap, cur, rfl, hg, -⟩
  · cases hk
  · cases hk; exact hg

theorem ownsRow_below {w w' : World} {base : Nat} {e : TypeId} {size : Nat} {v : Value} {n : Nat} {xs : List Value} (h : w.ownsRow base e size v n xs) (hb : Below w.heap.size w w') : w'.ownsRow base e size v n xs := by
  refine ⟨h.1, ?_⟩
  rcases h.2 with h0 | ⟨g, cap, cur, hv, hg, hh, r⟩
  · exact Or.inl h0
  · exact Or.inr ⟨g, cap, cur, hv, hg, (hb.block g (lt_of_block hh)).trans hh, r⟩

theorem ownsRow_mono {w : World} {base base' : Nat} {e : TypeId} {size : Nat} {v : Value} {n : Nat} {xs : List Value} (h : w.ownsRow base e size v n xs) (hb : base' ≤ base) : w.ownsRow base' e size v n xs := by
  refine ⟨h.1, ?_⟩
  rcases h.2 with h0 | ⟨g, cap, cur, hv, hg, r⟩
  · exact Or.inl h0
  · exact Or.inr ⟨g, cap, cur, hv, Nat.le_trans hb hg, r⟩

/-- What the call owns reads as a list of uses. -/
theorem ents_of_owns {w : World} {base : Nat} {v : Value} {L : List (Int × Int)} (h : w.ownsRow base 58 2 v L.length (flat L)) : ∃ a cap, v = .slice a L.length cap ∧ L.length ≤ cap ∧ cap ≤ maxLen ∧ Ents w a L := by
  obtain ⟨-, h⟩ := h
  rcases h with ⟨rfl, hn⟩ | ⟨g, cap, cur, rfl, hg, hh, hn, hm, hc, hx⟩
  · rw [hn]
    exact ⟨none, 0, rfl, by simp, by simp [maxLen], by simp [maxLen, hn], Or.inl (List.eq_nil_of_length_eq_zero hn)⟩
  · have hlt : g < w.heap.size := lt_of_block hh
    have key : ∀ j u, (flat L)[j]? = some u → w.cell? ⟨g, j, none⟩ = some u := by
      intro j u hj
      simp only [World.cell?, hh]
      rw [← hx, List.getElem?_take] at hj
      split at hj
      · simpa using hj
      · cases hj
    refine ⟨some ⟨g, 0, none⟩, cap, rfl, hn, hm, Nat.le_trans hn hm, Or.inr ⟨g, 0, rfl, hlt, fun i hi => ?_⟩⟩
    have hfl : ∀ (M : List (Int × Int)) (i : Nat), i < M.length → (flat M)[i * 2]? = some (.int .i64 (M.getD i (0, 0)).1) ∧ (flat M)[i * 2 + 1]? = some (.int .i64 (M.getD i (0, 0)).2) := by
      intro M
      induction M with
      | nil => intro i hi; simp at hi
      | cons e r ih =>
        intro i hi
        cases i with
        | zero => simp [flat]
        | succ i =>
          have := ih i (by simpa using hi)
          have e1 : (i + 1) * 2 = i * 2 + 1 + 1 := by omega
          rw [e1]
          simpa [flat] using this
    obtain ⟨k1, k2⟩ := hfl L i hi
    rw [Nat.zero_add]
    exact ⟨key _ _ k1, key _ _ k2⟩

/-- What Recent answers: a list that the call has made. -/
def Made (w : World) (L : List (Int × Int)) (e : Ending) (w' : World) : Prop :=
  ∃ v, e = .returned v ∧ w'.ownsRow w.heap.size 58 2 v L.length (flat L) ∧ Below w.heap.size w w'

set_option maxHeartbeats 2000000 in
theorem recent_any (p : Pa) (a : Option Addr) (cap : Nat) (L : List (Int × Int)) (time : Int) (w : World) (hL : Ents w a L) (h1 : 1 ≤ p.t) (h2 : p.t ≤ 1000000) (h3 : 0 ≤ time) (h4 : time ≤ 1000000)
    (hreach : L.length * 16 ≤ 140737488351232) :
    Calls Try.prog 41 #[pv p, .slice a L.length cap, .int .i64 time] w (Made w (recent (time - p.t) L)) := by
  obtain ⟨i0, hi, hz0, hz1, hz2⟩ := info_parts infoUse
  have hb0 : ∀ o, Below w.heap.size w (w.alloc o) := fun o => (Below.refl _ _).alloc (Nat.le_refl _) o
  have hw := fun o => window_any p time (w.alloc o) h1 h2 h3 h4
  unfold pv at hw ⊢
  generalize time - p.t = o at *
  go_enter Try.func41, Try.ntmps41
  go_wp2_with fail
  refine (hw _).mono ?_
  rintro e w1 ⟨c, rfl, hc1, hc2, hc3, hb1⟩
  have hbb : Below w.heap.size w w1 := (hb0 _).trans (hb1.mono (by simp))
  have hL1 := hL.below hbb
  have hsz := hbb.size
  clear hw hL hc1 hb1 hb0
  obtain ⟨hm, hL⟩ := hL1
  unfold maxLen at hm
  go_wp2
  go_loopw [8, 16] (fun v i wr => ∃ k : Nat, k ≤ L.length ∧ i = .int .i64 k ∧ wr.ownsRow w1.heap.size 58 2 v (recent o (L.take k)).length (flat (recent o (L.take k))) ∧ Below w1.heap.size w1 wr) (fun _ i _ => L.length - (intOf i).toNat)
  case atStart => exact ⟨0, Nat.zero_le _, rfl, World.ownsRow_nil _ _ _ _, Below.refl _ _⟩
  case round =>
    obtain ⟨k, hk, rfl, hown, hb⟩ := hrel
    by_cases hlt : k < L.length
    · rcases hL with rfl | ⟨b, off, rfl, hbl, hcell⟩
      · simp at hlt
      obtain ⟨c1, c2⟩ := hcell k hlt
      have hlt' : (k : Int) < L.length := by omega
      have e1 := (hb.cell (p := ⟨b, off + k * 2, none⟩) hbl).trans c1
      have e2 := (hb.cell (p := ⟨b, off + k * 2 + 1, none⟩) hbl).trans c2
      have e3 : ∀ o', (wr.alloc o').cell? ⟨c, 0, none⟩ = some (.int .i64 o) := fun o' => ((hb.alloc hb.size o').cell (p := ⟨c, 0, none⟩) hc2).trans hc3
      have hsw := hb.size
      have HH := hid (recent_hit (o := o) hlt)
      have HM := hid (recent_miss (o := o) hlt)
      have hle := recent_take_le' o L k
      clear c1 c2 hcell
      generalize hx : L.getD k (0, 0) = x at *
      clear hx
      by_cases hq : o < x.1
      · have HH' := hid (HH.out hq)
        have hlt2 := recent_take_le' o L (k + 1)
        rw [HH'.out] at hlt2
        simp at hlt2
        clear HH HM
        go_wp2_with fail
        refine (counts_any x c o _ (e3 _) (by simp; omega)).mono ?_
        rintro e w2 ⟨rfl, hb2⟩
        have hd : decide (o < x.1) = true := by simpa using hq
        rw [hd]
        have hown2 := ownsRow_below (hown.alloc _) hb2
        have hb12 : Below w1.heap.size w1 w2 := hb.trans (below_up hsw hb2)
        have q0 : w2.cell? ⟨wr.heap.size, 0, none⟩ = some (.int .i64 x.1) := (hb2.cell (p := ⟨wr.heap.size, 0, none⟩) (by simp)).trans (by rw [World.cell?_alloc_at _ _ _ _ rfl]; rfl)
        have q1 : w2.cell? ⟨wr.heap.size, 1, none⟩ = some (.int .i64 x.2) := (hb2.cell (p := ⟨wr.heap.size, 1, none⟩) (by simp)).trans (by rw [World.cell?_alloc_at _ _ _ _ rfl]; rfl)
        have hs2 := hb12.size
        clear hown hb2 e3
        go_wp2_with (at_builtin; refine wpList_append_own _ rfl _ _ 56 rfl w1.heap.size 58 i0 (.agg #[.int .i64 0, .int .i64 0]) 2 16 Try.underlying56 hi hz0 hz1 hz2 rfl (by decide) _ _ _ rfl (hown2.alloc _) ⟨w2.heap.size, 0, none⟩ 1 1 [.int .i64 x.1, .int .i64 x.2] rfl rfl ?c1 ?c2 ?c3 ?c4 ?c5 ?_)
        case c1 => exact cell_two_new _ _ _ _
        case c2 => intro u hu; simp at hu; rcases hu with rfl | rfl <;> rfl
        case c3 => unfold maxLen; omega
        case c4 => omega
        case c5 => simp; omega
        intro v' w3 hown' hgrow _
        have hb' : Below w1.heap.size w1 w3 := (hb12.alloc hb12.size _).grown hgrow (by simp; omega) (ownBlock_ge hown2)
        clear hgrow hown2
        go_wp2
        go_roundw
        case rel => exact ⟨k + 1, by omega, by go_num, by rw [HH'.out, flat_snoc, List.length_append]; exact hown', hb'⟩
        case measure => simp [intOf]; omega
      · have HM' := hid (HM.out hq)
        clear HH HM
        go_wp2_with fail
        refine (counts_any x c o _ (e3 _) (by simp; omega)).mono ?_
        rintro e w2 ⟨rfl, hb2⟩
        have hd : decide (o < x.1) = false := by simpa using hq
        rw [hd]
        have hown2 := ownsRow_below (hown.alloc _) hb2
        have hb12 : Below w1.heap.size w1 w2 := hb.trans (below_up hsw hb2)
        clear hown hb2 e3
        go_wp2
        go_roundw
        case rel => exact ⟨k + 1, by omega, by go_num, by rw [HM'.out]; exact hown2, hb12⟩
        case measure => simp [intOf]; omega
    · have HA := hid (recent_all (o := o) (L := L) (k := k) (by omega))
      go_wp2
      go_ret
      exact ⟨_, rfl, ownsRow_mono (by rw [← HA.out]; exact hown) hsz, hbb.trans (hb.mono hsz)⟩
end Go.Proofs.Ytdifndnogpcbkaa
