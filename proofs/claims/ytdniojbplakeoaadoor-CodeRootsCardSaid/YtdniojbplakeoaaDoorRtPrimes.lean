/-
  The contract of the reference's primes.
-/
import Derived.Test.YtdniojbplakeoaaDoorRtRoot
namespace Go.Proofs.YtdniojbplakeoaaDoor
open Go Go.RowKit Go.Shelf
set_option maxRecDepth 100000

/-- The primes below k + 2. -/
def primeS : Nat → List Nat
  | 0 => []
  | k + 1 => if (primeS k).all (fun d => (k + 2) % d != 0) then primeS k ++ [k + 2] else primeS k
theorem primeS_len : ∀ k, (primeS k).length ≤ k
  | 0 => by simp [primeS]
  | k + 1 => by
    have := primeS_len k
    rw [primeS]
    split
    · rw [List.length_append]; simp; omega
    · omega
theorem primeS_pos : ∀ k, ∀ d ∈ primeS k, 2 ≤ d ∧ d ≤ k + 1
  | 0 => by simp [primeS]
  | k + 1 => by
    have ih := primeS_pos k
    rw [primeS]
    intro d hd
    split at hd
    · rcases List.mem_append.1 hd with h | h
      · have := ih d h; omega
      · simp at h; omega
    · have := ih d hd; omega
theorem row_append64 {n : Nat} {w1 : World} {v : Value} {ls : List Nat} (h : w1.ownsRow n 53 1 v ls.length (ls.map u64v)) (hn : n ≤ w1.heap.size) (hlen : ls.length ≤ 1000)
    {ops : Array Oper} {rest : List Oper} {o : Oper} {a : Act} {Q : Exit → Act → World → Prop} (t : Nat) (C : Array Value) (hC : C.toList = [u64v t])
    (s x : Operand) (hgd : o.guard = none) (ho : o.op = .call { callee := .builtin .append, args := #[s, x], argTypes := #[62, 62] }) (hs : a.eval s = v) (c : Nat) (hx : a.eval x = .slice (some ⟨w1.heap.size, 0, none⟩) 1 c)
    (k : ∀ g cap w', w'.ownsRow n 53 1 (.slice (some ⟨g, 0, none⟩) (ls.length + 1) cap) (ls.length + 1) ((ls ++ [t]).map u64v) → (w1.alloc (.cells C 53)).grownBy w' v.ownBlock →
      wpList Tryd.prog ops Q rest (a.put o.dst (.slice (some ⟨g, 0, none⟩) (ls.length + 1) cap)) w') :
    wpList Tryd.prog ops Q (o :: rest) a (w1.alloc (.cells C 53)) := by
  obtain ⟨i, hi, hz0, hz1, hz2⟩ := info_parts (show (Tryd.prog.info? 53).map (fun i => (i.zero, i.size, i.bytes)) = some (some (.int .u64 0), 1, 8) by kernel_rfl)
  obtain ⟨g, cap, w', hrun, hown, hgr, hor, hlt⟩ := run_append_lies (P := Tryd.prog) (w1.alloc (.cells C 53)) 62 o.type n 53 i _ 1 8 Tryd.underlying62 hi hz0 hz1 hz2 rfl (by decide) v ls.length (ls.map u64v) (h.alloc _) ⟨w1.heap.size, 0, none⟩ 1 c [u64v t] (by simp)
    (by rw [← hC]; exact World.news_of_block (heap_alloc_new w1 _)) (fun u hu => by simp at hu; subst hu; rfl) (by omega) (by unfold maxLen; omega) (by omega) (by simp; omega) (w1.heap.size + 1) (by simp)
  exact wpList_append_run hgd s x 62 ho hs hx hrun (k g cap w' (by simpa using hown) hgr)
theorem own64_ur {W : World} {B : Nat} {v : Value} {ds : List Nat} (h : W.ownsRow B 53 1 v ds.length (ds.map u64v)) : UR W v ds := by
  rcases h.2 with ⟨rfl, h0⟩ | ⟨g, cap, cur, rfl, hb, hg, hnc, hcm, hsz, ht⟩
  · exact ⟨none, 0, by rw [h0], .inl (List.length_eq_zero_iff.1 h0)⟩
  · refine ⟨_, cap, rfl, .inr ⟨g, rfl, lt_of_blk hg, fun k hk => ?_⟩⟩
    rw [cellAt hg]
    have h3 : (cur.toList.take (ds.length * 1))[k]? = cur.toList[k]? := List.getElem?_take_of_lt (by omega)
    rw [ht, List.getElem?_map, List.getElem?_eq_getElem hk] at h3
    rw [← Array.getElem?_toList, ← h3]
    rfl
theorem primeS_full : (primeS 310).length = 64 ∧ ∀ k, k < 310 → (primeS k).length < 64 := by
  refine ⟨by decide +kernel, fun k hk => ?_⟩
  have h : (List.range 310).all (fun k => decide ((primeS k).length < 64)) = true := by decide +kernel
  exact of_decide_eq_true (List.all_eq_true.1 h k (List.mem_range.2 hk))

/-- What the loop holds. -/
structure PI2 (w : World) (k : Nat) (v : Value) (W : World) : Prop where
  b : Below w.heap.size w W
  own : W.ownsRow w.heap.size 53 1 v (primeS k).length ((primeS k).map u64v)

set_option maxHeartbeats 8000000 in
theorem primes_any (w : World) : Calls Tryd.prog 44 #[.int .i64 64] w fun e w' => ∃ v, e = .returned v ∧ UR w' v (primeS 310) ∧ Below w.heap.size w w' := by
  go_enter Tryd.func44, Tryd.ntmps44
  go_wp2_with fail
  go_loopw [3, 4, 5, 6] (fun v n _ _ wr => ∃ k : Nat, k ≤ 310 ∧ n = .int .u64 ((k + 2 : Nat) : Int) ∧ PI2 w k v wr) (fun _ n _ _ _ => 312 - (intOf n).toNat)
  case atStart => exact ⟨0, by omega, by go_num, Below.refl _ _, World.ownsRow_nil _ _ _ _⟩
  case round =>
    obtain ⟨k, hk, rfl, hi⟩ := hrel
    have hur := own64_ur hi.own
    obtain ⟨A, c, rfl, hA⟩ := id hur
    obtain ⟨ds, hds⟩ : ∃ ds, ds = primeS k := ⟨_, rfl⟩
    rw [← hds] at hur hA hi ⊢
    have HI := Lib.hid hi
    have HDS := Lib.hid hds
    have hlen := primeS_len k
    rw [← hds] at hlen
    by_cases hlt : k < 310
    · have hl64 : ds.length < 64 := by rw [hds]; exact primeS_full.2 k hlt
      have HPOS := Lib.hid (show ∀ d ∈ ds, 2 ≤ d ∧ d ≤ k + 1 from by rw [hds]; exact primeS_pos k)
      obtain ⟨nn, hnn⟩ : ∃ nn, nn = k + 2 := ⟨_, rfl⟩
      rw [← hnn]
      have HNN := Lib.hid hnn
      have hnb : nn ≤ 311 := by omega
      clear hi hur hA hds hnn
      go_wp2_with fail
      go_loopw [5, 6] (fun bv iv W => ∃ j : Nat, j ≤ ds.length ∧ iv = .int .i64 j ∧ bv = .bool ((ds.take j).all fun d => nn % d != 0) ∧ PI2 w k (.slice A ds.length c) W) (fun _ iv _ => ds.length - (intOf iv).toNat)
      case atStart => exact ⟨0, by omega, rfl, rfl, HI.out⟩
      case round =>
        obtain ⟨j, hj, rfl, rfl, hi⟩ := hrel
        have HI2 := Lib.hid hi
        obtain ⟨bz, hbz⟩ : ∃ bz, bz = (ds.take j).all fun d => nn % d != 0 := ⟨_, rfl⟩
        rw [← hbz]
        have HBZ := Lib.hid hbz
        by_cases hjl : j < ds.length
        · have hur := own64_ur hi.own
          rw [← HDS.out] at hur
          obtain ⟨b, rfl, hbl, hc⟩ := hur.at_ hjl
          obtain ⟨dd, hdd⟩ : ∃ dd, dd = ds[j] := ⟨_, rfl⟩
          rw [← hdd] at hc
          have hdp : 2 ≤ dd ∧ dd ≤ k + 1 := by rw [hdd]; exact HPOS.out _ (List.getElem_mem hjl)
          obtain ⟨rr, hrr⟩ : ∃ rr, rr = nn % dd := ⟨_, rfl⟩
          have hmod : (nn : Int) % (dd : Int) = (rr : Int) := by rw [hrr]; simp
          have HNX := Lib.hid (show ((ds.take (j + 1)).all fun d => nn % d != 0) = (bz && (rr != 0)) by
            rw [List.take_succ_eq_append_getElem hjl, List.all_append, ← hbz, hrr, hdd]; simp)
          clear hi hur hbz hdd hrr
          cases bz with
          | false =>
            go_wp2_with fail
            go_roundw
            case rel => exact ⟨j + 1, by omega, by go_num, by rw [HNX.out]; rfl, HI2.out⟩
            case measure => simp [intOf]; omega
          | true =>
            by_cases h0 : rr = 0
            · subst h0
              go_wp2_with fail
              go_roundw
              case rel => exact ⟨j + 1, by omega, by go_num, by rw [HNX.out]; rfl, HI2.out⟩
              case measure => simp [intOf]; omega
            · have hne : ((rr : Int) != 0) = true := by simp; omega
              have HE := Lib.hid (show (true && (rr != 0)) = true by simp; omega)
              go_wp2_with fail
              go_roundw
              case rel => exact ⟨j + 1, by omega, by go_num, by rw [HNX.out, HE.out], HI2.out⟩
              case measure => simp [intOf]; omega
        · obtain rfl : j = ds.length := by omega
          have HALL := Lib.hid (show (ds.all fun d => (k + 2) % d != 0) = bz by rw [hbz, List.take_of_length_le (Nat.le_refl _), HNN.out])
          clear hi hbz
          cases bz with
          | false =>
            have HS := Lib.hid (show primeS (k + 1) = primeS k by rw [primeS, ← HDS.out, HALL.out]; simp)
            go_wp2_with fail
            go_roundw
            case rel => exact ⟨k + 1, by omega, by rw [HNN.out]; go_num, HI2.out.b, by rw [HS.out]; exact HI2.out.own⟩
            case measure => simp [intOf]; omega
          | true =>
            have HS := Lib.hid (show primeS (k + 1) = primeS k ++ [k + 2] by rw [primeS, ← HDS.out, HALL.out]; simp)
            have ho := HI2.out.own
            rw [← HDS.out] at ho
            have HO := Lib.hid ho
            have HLT := Lib.hid HI2.out.b.size
            clear ho
            go_wp2_with (at_builtin; refine row_append64 HO.out HLT.out (by omega) nn _ rfl _ _ rfl rfl rfl _ rfl ?_; intro g cap w' hown hgr; have HF := Lib.hid (show PI2 w (k + 1) (.slice (some ⟨g, 0, none⟩) (ds.length + 1) cap) w' from ⟨Below.grown (HI2.out.b.alloc HLT.out _) hgr (by simp only [World.size_alloc]; have := HLT.out; omega) (fun j e => (HO.out.lt j (by rw [← e])).1), by rw [HS.out, ← HDS.out, ← HNN.out, List.length_append]; exact hown⟩); clear hown hgr)
            go_roundw
            case rel => exact ⟨k + 1, by omega, by rw [HNN.out]; go_num, HF.out⟩
            case measure => simp [intOf]; omega
    · obtain rfl : k = 310 := by omega
      have hl64 : ds.length = 64 := by rw [hds]; exact primeS_full.1
      have HUR := Lib.hid hur
      have HB := Lib.hid hi.b
      clear hi hur hA hds
      go_wp2_with fail
      go_ret
      exact ⟨_, rfl, by rw [← HDS.out]; exact HUR.out, HB.out⟩
end Go.Proofs.YtdniojbplakeoaaDoor
