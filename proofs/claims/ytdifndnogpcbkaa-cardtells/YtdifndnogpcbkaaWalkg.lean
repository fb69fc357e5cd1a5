/- The walk of Add. -/
import Derived.Test.YtdifndnogpcbkaaWalkb
import Derived.Test.YtdifndnogpcbkaaWalke
import Derived.Test.YtdifndnogpcbkaaWalkf
import Derived.Deep.RegionWith
import Derived.Deep.RegionLaw
import Derived.Deep.CutRange
namespace Go.Proofs.Ytdifndnogpcbkaa
open Go.RowKit

/-- What Add answers: a list that the call has made, and an error's number. -/
def Answers (w : World) (r : List (Int × Int) × Int) (e : Ending) (w' : World) : Prop :=
  ∃ v, e = .returned (.tuple #[v, .int .i64 r.2]) ∧ w'.ownsRow w.heap.size 58 2 v r.1.length (flat r.1) ∧ Below w.heap.size w w'

theorem Answers.read {w w' : World} {r : List (Int × Int) × Int} {e : Ending} (h : Answers w r e w') : ∃ a cap, e = .returned (.tuple #[.slice a r.1.length cap, .int .i64 r.2]) ∧ Ents w' a r.1 ∧ Below w.heap.size w w' := by
  obtain ⟨v, he, ho, hb⟩ := h
  obtain ⟨a, cap, rfl, -, -, hE⟩ := ents_of_owns ho
  exact ⟨a, cap, he, hE, hb⟩

set_option maxHeartbeats 1000000 in
theorem add_bad (p : Pa) (a : Option Addr) (cap : Nat) (L : List (Int × Int)) (x : Int × Int) (w : World) (hL : Ents w a L) (hw : wrongAdd p L x ≠ 0) :
    Calls Try.prog 43 #[pv p, .slice a L.length cap, uv x] w (Answers w (addU p L x)) := by
  have HP := hid (addU_bad hw)
  have hne : (wrongAdd p L x != 0) = true := by simpa using hw
  have hL0 : ∀ o o', Ents ((w.alloc o).alloc o') a L := fun o o' => hL.below (((Below.refl _ _).alloc (Nat.le_refl _) _).alloc (by simp) _)
  clear hw
  unfold pv uv
  go_enter Try.func43, Try.ntmps43
  go_wp2_with fail
  refine (wrongAdd_any p a cap L x _ (hL0 _ _)).mono ?_
  rintro e w1 ⟨rfl, hb1⟩
  obtain ⟨bb, -, -, -⟩ := boxes hb1
  generalize wrongAdd p L x = r at *
  go_wp2
  go_ret2
  unfold Answers
  rw [HP.out]
  exact ⟨.slice none 0 0, rfl, World.ownsRow_nil _ _ _ _, bb⟩

/-- append onto what the call owns, as one step of a region that draws. -/
theorem step_append_own {P : Program} {ops : Array Oper} {o : Oper} {a : Act} {w : World} {K : Act → World → Prop} {Q : Exit → Act → World → Prop} {E : Prop}
    (hg : o.guard = none) (s x : Operand) (t : TypeId) (hop : o.op = Op.call { callee := Callee.builtin Builtin.append, args := #[s, x], argTypes := #[t, t] })
    (base : Nat) (e : TypeId) (i : TypeInfo) (z : Value) (size bytes : Nat) (ht : P.underlying t = some (.slice e)) (hi : P.info? e = some i) (hz : i.zero = some z)
    (hsize : i.size = size) (hby : i.bytes = bytes) (hzs : z.cells.size = size) (hsz : 0 < size)
    (v : Value) (n : Nat) (xs : List Value) (hs : a.eval s = v) (hown : w.ownsRow base e size v n xs)
    (ad : Addr) (m c : Nat) (news : List Value) (hx : a.eval x = .slice (some ad) m c) (hl : news.length = m * size) (hnews : ∀ j u, news[j]? = some u → w.cell? (ad.add j) = some u) (h1 : ∀ u ∈ news, u.oneCell' = true)
    (h63 : n + m ≤ maxLen) (hbytes : (n + m) * bytes ≤ 140737488355328) (hbase : base ≤ w.heap.size)
    (hK : ∀ v' w', w'.ownsRow base e size v' (n + m) (xs ++ news) → w.grownBy w' v.ownBlock → K (a.put o.dst v') w') :
    if Region.wanted o (yielded ops a.tmps) = true then Oper.wp P o a w K Q else E := by
  rw [if_pos (show Region.wanted o (yielded ops a.tmps) = true by simp [Region.wanted, hg])]
  exact wp_append_own w s x t hop base e i z size bytes ht hi hz hsize hby hzs hsz v n xs hs hown ad m c news hx hl hnews h1 h63 hbytes hbase fun v' w' h2 h3 _ => hK v' w' h2 h3

theorem two_cells {w : World} {b : Nat} {x : Int × Int} (h : w.heap[b]? = some (.cells #[.int .i64 x.1, .int .i64 x.2] 58)) :
    ∀ j u, [Value.int .i64 x.1, Value.int .i64 x.2][j]? = some u → w.cell? ((⟨b, 0, none⟩ : Addr).add j) = some u := by
  intro j u hj
  match j, hj with
  | 0, hj => simp at hj; subst hj; simp [Addr.add, World.cell?, h]
  | 1, hj => simp at hj; subst hj; simp [Addr.add, World.cell?, h]
  | j + 2, hj => simp at hj

theorem own_out {w : World} {base base' : Nat} {v : Value} {p : Pa} {L : List (Int × Int)} {x : Int × Int}
    (h : w.ownsRow base 58 2 v ((recent (x.1 - p.t) L).length + 1) (flat (recent (x.1 - p.t) L) ++ [Value.int .i64 x.1, Value.int .i64 x.2])) (hb : base' ≤ base) : w.ownsRow base' 58 2 v (out p L x).length (flat (out p L x)) := by
  unfold out
  rw [flat_snoc, List.length_append]
  exact ownsRow_mono h hb

theorem below_drew_up {B : Nat} {w w2 : World} (hB : B ≤ w.heap.size) (hb : Below w.drew.heap.size w.drew w2) : Below B w w2 := ((Below.refl B w).drew).trans (hb.mono hB)
theorem below_drew_alloc {B : Nat} {w w2 : World} {o : Obj} (hB : B ≤ w.heap.size) (hb : Below (w.alloc o).drew.heap.size (w.alloc o).drew w2) : Below B w w2 := by
  have hs : (w.alloc o).drew.heap.size = w.heap.size + 1 := by show (w.heap.push o).size = _; simp
  exact (((Below.refl B w).alloc hB o).drew).trans (hb.mono (by omega))
theorem block_drew_alloc {w w2 : World} {o : Obj} (hb : Below (w.alloc o).drew.heap.size (w.alloc o).drew w2) : w2.heap[w.heap.size]? = some o := by
  rw [hb.block _ (by show _ < (w.heap.push o).size; simp)]
  exact heap_alloc_at w o _ rfl

theorem addU_pace {p : Pa} {L : List (Int × Int)} {x : Int × Int} (h : wrongAdd p L x = 0) (h2 : p.c < (out p L x).length ∨ p.s < tot (out p L x)) : addU p L x = ([], 11) := by
  unfold addU; rw [if_neg (by simpa using h), if_pos h2]
theorem addU_ok {p : Pa} {L : List (Int × Int)} {x : Int × Int} (h : wrongAdd p L x = 0) (h2 : ¬ (p.c < (out p L x).length ∨ p.s < tot (out p L x))) : addU p L x = (out p L x, 0) := by
  unfold addU; rw [if_neg (by simpa using h), if_neg h2]

/-- So far within the pace. -/
def Within (p : Pa) (O : List (Int × Int)) (k : Nat) : Prop := 0 < k → (k : Int) ≤ p.c ∧ tot (O.take k) ≤ p.s

theorem within_over {p : Pa} {O : List (Int × Int)} (hall : ∀ u ∈ O, inU u = true) {k : Nat} (hk : k < O.length) (h : ¬ ((k : Int) + 1 ≤ p.c ∧ tot (O.take (k + 1)) ≤ p.s)) : p.c < O.length ∨ p.s < tot O := by
  have := tot_take_le hall (k + 1)
  omega

set_option maxHeartbeats 4000000 in
theorem add_good (p : Pa) (a : Option Addr) (cap : Nat) (L : List (Int × Int)) (x : Int × Int) (w : World) (hL : Ents w a L) (hw : wrongAdd p L x = 0) :
    Calls Try.prog 43 #[pv p, .slice a L.length cap, uv x] w (Answers w (addU p L x)) := by
  have hne : (wrongAdd p L x != 0) = false := by simpa using hw
  have hL0 : ∀ o o', Ents ((w.alloc o).alloc o') a L := fun o o' => hL.below (((Below.refl _ _).alloc (Nat.le_refl _) _).alloc (by simp) _)
  have HF := hid (wrongAdd_ok hw)
  have H1 := hid (addU_pace hw)
  have H2 := hid (addU_ok hw)
  clear hw
  unfold pv uv
  go_enter Try.func43, Try.ntmps43
  go_wp2_with fail
  refine (wrongAdd_any p a cap L x _ (hL0 _ _)).mono ?_
  rintro e w1 ⟨rfl, hb1⟩
  obtain ⟨bb, hs1, hp1, hx1⟩ := boxes hb1
  generalize wrongAdd p L x = r at *
  have hL1 := hL.below bb
  have h1 := HF.out.pace.t1
  have h2 := HF.out.pace.t2
  obtain ⟨h3, h4, -, -⟩ := inU_true.1 HF.out.inx
  have hr : L.length * 16 ≤ 140737488351232 := by have := HF.out.few; omega
  have hle := recent_le (x.1 - p.t) L
  have hs1' : w.heap.size + 2 ≤ w1.heap.size := hs1
  obtain ⟨i0, hi, hz0, hz1, hz2⟩ := info_parts infoUse
  clear hb1 hL0 hL
  go_upto_region 4 with fail
  go_cut [9] from 20 to 27 (fun v wc => wc.ownsRow (w.heap.size + 2) 58 2 v (out p L x).length (flat (out p L x)) ∧ Below (w.heap.size + 2) w1 wc)
  case first =>
    obtain ⟨P0, P1, P2⟩ := pace_cells hp1
    obtain ⟨X0, X1⟩ := use_cells hx1
    have hw1 : w.heap.size < w1.heap.size := by omega
    have Q0 : ∀ o, (w1.alloc o).cell? ⟨w.heap.size, 0, none⟩ = some (.int .i64 p.t) := fun o => (World.cell?_alloc_past _ _ _ hw1).trans P0
    have Q1 : ∀ o, (w1.alloc o).cell? ⟨w.heap.size, 1, none⟩ = some (.int .i64 p.c) := fun o => (World.cell?_alloc_past _ _ _ hw1).trans P1
    have Q2 : ∀ o, (w1.alloc o).cell? ⟨w.heap.size, 2, none⟩ = some (.int .i64 p.s) := fun o => (World.cell?_alloc_past _ _ _ hw1).trans P2
    have Z0 : ∀ o, (w1.alloc o).cell? ⟨w.heap.size + 1, 0, none⟩ = some (.int .i64 x.1) := fun o => (World.cell?_alloc_past _ _ _ hs1).trans X0
    have Z1 : ∀ o, (w1.alloc o).cell? ⟨w.heap.size + 1, 1, none⟩ = some (.int .i64 x.2) := fun o => (World.cell?_alloc_past _ _ _ hs1).trans X1
    go_region_law (first
      | (rw [if_pos (by simp [Region.wanted])]; go_simp; go_at_call 41; refine (recent_any p a cap L x.1 _ ?_ h1 h2 h3 h4 hr).mono ?_; exact hL1.below ((Below.refl _ _).drew)
         rintro e w2 ⟨v, rfl, hown, hb⟩
         have hb2 := below_drew_up (Nat.le_refl _) hb
         have hx2 := (hb2.block _ hs1).trans hx1
         obtain ⟨Y0, Y1⟩ := use_cells hx2
         have hs2 := hb2.size
         clear hb)
      | (rw [if_pos (by simp [Region.wanted])]; go_simp; go_at_call 41; refine (recent_any p a cap L x.1 _ ?_ h1 h2 h3 h4 hr).mono ?_; exact hL1.below (((Below.refl _ _).alloc (Nat.le_refl _) _).drew)
         rintro e w2 ⟨v, rfl, hown, hb⟩
         have hb2 := below_drew_alloc (Nat.le_refl _) hb
         have hn2 := block_drew_alloc hb
         have hs2 := hb2.size
         have hown := ownsRow_mono hown (base' := w1.heap.size) (by show _ ≤ (w1.heap.push _).size; simp)
         clear hb)
      | (refine step_append_own rfl (.tmp 24) (.tmp 26) 56 rfl w1.heap.size 58 i0 (.agg #[.int .i64 0, .int .i64 0]) 2 16 Try.underlying56 hi hz0 hz1 hz2 rfl (by decide) v _ _ (by simp [Act.eval]) (hown.alloc _) ⟨w2.heap.size, 0, none⟩ 1 1 [.int .i64 x.1, .int .i64 x.2] (by simp [Act.eval]) rfl (two_cells (heap_alloc_at _ _ _ rfl)) (by intro u hu; simp at hu; rcases hu with rfl | rfl <;> rfl) (by unfold maxLen; omega) (by omega) (by simp; omega) ?_
         intro v' w3 hown' hgrow
         have hb3 : Below w1.heap.size w1 w3 := (hb2.alloc hb2.size _).grown hgrow (by simp; omega) (ownBlock_ge hown)
         clear hgrow hown hb2)
      | (refine step_append_own rfl (.tmp 24) (.tmp 26) 56 rfl w1.heap.size 58 i0 (.agg #[.int .i64 0, .int .i64 0]) 2 16 Try.underlying56 hi hz0 hz1 hz2 rfl (by decide) v _ _ (by simp [Act.eval]) hown ⟨w1.heap.size, 0, none⟩ 1 1 [.int .i64 x.1, .int .i64 x.2] (by simp [Act.eval]) rfl (two_cells hn2) (by intro u hu; simp at hu; rcases hu with rfl | rfl <;> rfl) (by unfold maxLen; omega) (by omega) hs2 ?_
         intro v' w3 hown' hgrow
         have hb3 : Below w1.heap.size w1 w3 := hb2.grown hgrow hs2 (ownBlock_ge hown)
         clear hgrow hown hb2))
    all_goals (go_wp2_with fail; go_meet; exact ⟨own_out hown' hs1', hb3.mono hs1'⟩)
  case rest =>
    obtain ⟨hown, hb⟩ := hcut
    obtain ⟨a5, cap5, rfl, hcl, hcm, hE5⟩ := ents_of_owns hown
    have HO := hid hown
    obtain ⟨P0, P1, P2⟩ := pace_cells ((hb.block _ (by omega)).trans hp1)
    have hsc := hb.size
    have bbc : Below w.heap.size w wc := bb.trans (hb.mono (by omega))
    have hall := out_all HF.out
    have hfew := out_few HF.out
    have hpos : 0 < (out p L x).length := by simp [out]
    generalize addU p L x = R at *
    generalize out p L x = O at *
    clear hown hb hle hr h1 h2 h3 h4 HF hL1 hp1 hx1 bb hi hz0 hz1 hz2
    go_wp2_with fail
    refine (meter_any p _).mono ?_
    rintro e w3 ⟨rfl, hM, hb3⟩
    obtain ⟨hm, hE⟩ := hE5
    unfold maxLen at hm
    have hs3 := hM.lt
    clear P0 P1 P2
    have HA := hid hall
    clear hall
    go_wp2
    go_loopw [32] (fun i wr => ∃ k : Nat, k ≤ O.length ∧ i = .int .i64 k ∧ Meter wr wc.heap.size p k (tot (O.take k)) ∧ Below wc.heap.size w3 wr ∧ Hid (Within p O k)) (fun i _ => O.length - (intOf i).toNat)
    case atStart => exact ⟨0, Nat.zero_le _, rfl, by simpa [tot] using hM, Below.refl _ _, fun h => absurd h (Nat.lt_irrefl _)⟩
    case round =>
      obtain ⟨k, hk, rfl, hMk, hbk, hW⟩ := hrel
      have hsk := hbk.size
      have hlk := hMk.lt
      by_cases hlt : k < O.length
      · rcases hE with rfl | ⟨b, off, rfl, hbl, hcell⟩
        · simp at hlt
        obtain ⟨c1, c2⟩ := hcell k hlt
        have hlt' : (k : Int) < O.length := by omega
        have e1 := (hbk.cell (p := ⟨b, off + k * 2, none⟩) hbl).trans ((hb3.cell (p := ⟨b, off + k * 2, none⟩) hbl).trans c1)
        have e2 := (hbk.cell (p := ⟨b, off + k * 2 + 1, none⟩) hbl).trans ((hb3.cell (p := ⟨b, off + k * 2 + 1, none⟩) hbl).trans c2)
        have hx := inU_true.1 (HA.out _ (getD_mem hlt))
        have ht := tot_bound (A := O.take k) fun u hu => HA.out u (List.mem_of_mem_take hu)
        have hlen := List.length_take_le k O
        have Hov := hid (within_over (p := p) HA.out hlt)
        have Htk : Hid (tot (O.take (k + 1)) = tot (O.take k) + (O.getD k (0, 0)).2) := hid (by rw [take_at hlt, tot_snoc])
        obtain ⟨-, -, x1, x2⟩ := hx
        clear c1 c2 hcell
        generalize O.getD k (0, 0) = y at *
        have t1 : 0 ≤ tot (O.take k) := ht.1
        have t2 : tot (O.take k) ≤ 1000000000 := by omega
        clear ht hlen
        have hMa : ∀ o, Meter (wr.alloc o) wc.heap.size p k (tot (O.take k)) := fun o => hMk.below ((Below.refl wr.heap.size wr).alloc (Nat.le_refl _) o) hlk
        go_wp2_with fail
        refine (within_any y wc.heap.size p k (tot (O.take k)) _ (hMa _) (by omega) (by omega) t1 t2 x1 x2).mono ?_
        rintro e w4 ⟨rfl, hM4, hb4⟩
        have hb34 : Below wc.heap.size w3 w4 := hbk.trans (((Below.refl _ _).alloc (by omega) _).trans hb4)
        by_cases hq : (k : Int) + 1 ≤ p.c ∧ tot (O.take k) + y.2 ≤ p.s
        · have hd : (decide ((k : Int) + 1 ≤ p.c) && decide (tot (O.take k) + y.2 ≤ p.s)) = true := by simp [hq.1, hq.2]
          rw [hd]
          have Hq := hid hq
          clear hq hd hMa hMk hbk hb4 Hov
          go_wp2
          go_roundw
          case rel => exact ⟨k + 1, by omega, by go_num, by rw [Htk.out]; exact hM4, hb34, fun _ => ⟨by have := Hq.out.1; omega, by rw [Htk.out]; exact Hq.out.2⟩⟩
          case measure => simp [intOf]; omega
        · have hd : (decide ((k : Int) + 1 ≤ p.c) && decide (tot (O.take k) + y.2 ≤ p.s)) = false := by
            by_cases h1 : (k : Int) + 1 ≤ p.c
            · by_cases h2 : tot (O.take k) + y.2 ≤ p.s
              · exact absurd ⟨h1, h2⟩ hq
              · simp [h2]
            · simp [h1]
          rw [hd]
          have HR := hid (H1.out (Hov.out (by rw [Htk.out]; exact hq)))
          clear hq hd hMa hMk hbk hb4 Hov
          go_wp2
          go_ret2
          unfold Answers
          rw [HR.out]
          exact ⟨.slice none 0 0, rfl, World.ownsRow_nil _ _ _ _, bbc.trans ((hb3.trans hb34).mono (by omega))⟩
      · have hkk : k = O.length := by omega
        have HR := hid (H2.out (by have := hW.out (by omega); rw [hkk, List.take_length] at this; omega))
        clear hW
        go_wp2
        go_ret2
        unfold Answers
        rw [HR.out]
        exact ⟨.slice a5 O.length cap5, rfl, ownsRow_mono (ownsRow_below HO.out (hb3.trans hbk)) (by omega), bbc.trans ((hb3.trans hbk).mono (by omega))⟩

theorem add_any (p : Pa) (a : Option Addr) (cap : Nat) (L : List (Int × Int)) (x : Int × Int) (w : World) (hL : Ents w a L) :
    Calls Try.prog 43 #[pv p, .slice a L.length cap, uv x] w (Answers w (addU p L x)) := by
  by_cases h : wrongAdd p L x = 0
  · exact add_good p a cap L x w hL h
  · exact add_bad p a cap L x w hL h
end Go.Proofs.Ytdifndnogpcbkaa
