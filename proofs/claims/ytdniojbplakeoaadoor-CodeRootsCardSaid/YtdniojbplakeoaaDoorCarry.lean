/-
  A world that lies behind another one, with the laid variables as they were; the contracts in its words.
-/
import Derived.Test.YtdniojbplakeoaaDoorWorks
namespace Go.Proofs.YtdniojbplakeoaaDoor
open Go Go.RowKit
set_option maxRecDepth 100000

/-- Behind w0, with new memory alone; the laid variables are as their texts lay them. -/
def BL (w0 w : World) : Prop := Below w0.heap.size w0 w ∧ LW w
theorem BL.start {w : World} (h : LW w) : BL w w := ⟨Below.refl _ _, h⟩
theorem BL.below {w0 w : World} (h : BL w0 w) : Below w0.heap.size w0 w := h.1
theorem BL.lw {w0 w : World} (h : BL w0 w) : LW w := h.2
theorem BL.step {w0 w w' : World} (h : BL w0 w) (hb : Below w.heap.size w w') : BL w0 w' := ⟨h.1.trans (hb.mono h.1.size), h.2.below hb⟩
theorem BL.alloc {w0 w : World} (h : BL w0 w) (o : Obj) : BL w0 (w.alloc o) := h.step ((Below.refl _ _).alloc (Nat.le_refl _) _)
theorem BL.drew {w0 w : World} (h : BL w0 w) : BL w0 w.drew := ⟨h.1.drew, h.2.drew⟩

theorem bl {w0 w : World} {f : Nat} {args : Array Value} {v : Value} (h : Calls Tryd.prog f args w fun e w' => e = .returned v ∧ Below w.heap.size w w') (hb : BL w0 w) :
    Calls Tryd.prog f args w fun e w' => e = .returned v ∧ BL w0 w' := h.mono fun _ _ ⟨he, h⟩ => ⟨he, hb.step h⟩

section
variable {w0 w : World}
theorem bl_hex (x : List UInt8) (hx : x.length ≤ 100000) (h : BL w0 w) : Calls Tryd.prog 12 #[.string (str x)] w fun e w' => e = .returned (sv (hexL x)) ∧ BL w0 w' := bl (hex_any x w hx) h
theorem bl_hex_of {x t : List UInt8} (e : hexL x = t) (hx : x.length ≤ 100000) (h : BL w0 w) : Calls Tryd.prog 12 #[.string (str x)] w fun e w' => e = .returned (sv t) ∧ BL w0 w' := bl (hex_of e hx w) h
theorem bl_base (x : List UInt8) (hx : x.length ≤ 100000) (h : BL w0 w) : Calls Tryd.prog 18 #[.string (str x)] w fun e w' => e = .returned (sv (b64L x)) ∧ BL w0 w' := bl (base_any x w hx) h
theorem bl_base_of {x t : List UInt8} (e : b64L x = t) (hx : x.length ≤ 100000) (h : BL w0 w) : Calls Tryd.prog 18 #[.string (str x)] w fun e w' => e = .returned (sv t) ∧ BL w0 w' := bl (base_of e hx w) h
theorem bl_unhex_of {x : List UInt8} {r : Option (List UInt8)} (e : unhexL x = r) (hx : x.length ≤ 100000) (h : BL w0 w) : Calls Tryd.prog 14 #[.string (str x)] w fun e w' => e = .returned (resO r) ∧ BL w0 w' := by
  have := bl (unhex_any x w hx) h
  rwa [e] at this
theorem bl_unbase_of {x : List UInt8} {r : Option (List UInt8)} (e : unb64L x = r) (hx : x.length ≤ 100000) (h : BL w0 w) : Calls Tryd.prog 15 #[.string (str x)] w fun e w' => e = .returned (resO r) ∧ BL w0 w' := by
  have := bl (unbase_any x w hx) h
  rwa [e] at this
theorem bl_num_of {x : List UInt8} {most a b : Int} (e : numR x most = (a, b)) (hx : x.length ≤ 100000) (h0 : -9223372036854775808 ≤ most) (h1 : most ≤ 9223372036854775807) (h : BL w0 w) :
    Calls Tryd.prog 16 #[.string (str x), .int .i64 most] w fun e w' => e = .returned (.tuple #[.int .i64 a, .int .i64 b]) ∧ BL w0 w' := bl (num_of e hx h0 h1 w h.lw) h
theorem bl_show (n : Int) (h0 : -9223372036854775808 ≤ n) (h1 : n ≤ 9223372036854775807) (h : BL w0 w) : Calls Tryd.prog 17 #[.int .i64 n] w fun e w' => e = .returned (sv (Lib.itoa n)) ∧ BL w0 w' := bl (show_any n w h0 h1 h.lw) h
theorem bl_show_of {n : Int} {t : List UInt8} (e : Lib.itoa n = t) (h0 : -9223372036854775808 ≤ n) (h1 : n ≤ 9223372036854775807) (h : BL w0 w) : Calls Tryd.prog 17 #[.int .i64 n] w fun e w' => e = .returned (sv t) ∧ BL w0 w' := bl (show_of e h0 h1 w h.lw) h
theorem bl_sum_of {x t : List UInt8} (e : sumP x = t) (hx : x.length ≤ 100000) (h : BL w0 w) : Calls Tryd.prog 13 #[.string (str x)] w fun e w' => e = .returned (sv t) ∧ BL w0 w' := bl (sum_of e hx w h.lw) h
theorem bl_works (h : BL w0 w) : Calls Tryd.prog 11 #[] w fun e w' => e = .returned (.bool true) ∧ BL w0 w' := bl (works_any w h.lw) h
end
end Go.Proofs.YtdniojbplakeoaaDoor
