/-
  An append to a row that the call owns, in a plain region; and what lies where behind it. Nothing is proved here of the program's functions.
-/
import Derived.Test.YtpiegllffkjneaaHandKit
namespace Go.Proofs.Ytpiegllffkjneaa
open Go.RowKit Plain
theorem wpl_app {P : Program} {w : World} {ops : Array Oper} {rest : List Oper} {o : Oper} {a : Act} {Q : Exit → Act → World → Prop} (hgd : o.guard = none) (s x : Operand) (t : TypeId)
    (ho : o.op = .call { callee := .builtin .append, args := #[s, x], argTypes := #[t, t] })
    (base : Nat) (e : TypeId) (i : TypeInfo) (z : Value) (size bytes : Nat) (ht : P.underlying t = some (.slice e)) (hi : P.info? e = some i) (hz : i.zero = some z)
    (hsize : i.size = size) (hby : i.bytes = bytes) (hzs : z.cells.size = size) (hsz : 0 < size)
    {v : Value} {n : Nat} {xs : List Value} (hs : a.eval s = v) (hown : w.ownsRow base e size v n xs)
    (b off m c : Nat) (f : Nat → Int) (N : Nat) (hx : a.eval x = .slice (some ⟨b, off, none⟩) m c) (hc : CAt w b N f) (hm : off + m * size ≤ N)
    (h63 : n + m ≤ maxLen) (hbytes : (n + m) * bytes ≤ 140737488355328) (hbase : base ≤ w.heap.size)
    (h : ∀ v' w', w'.ownsRow base e size v' (n + m) (xs ++ (mk (m * size) fun j => f (off + j)).toList) → Below base w w' → w.grownBy w' v.ownBlock → (v'.ownBlock = v.ownBlock ∨ v'.ownBlock = some w.heap.size) → wpList P ops Q rest (a.put o.dst v') w') : wpList P ops Q (o :: rest) a w :=
  Go.wpList_append_own_at w hgd s x t ho base e i z size bytes ht hi hz hsize hby hzs hsz v n xs hs hown ⟨b, off, none⟩ m c (mk (m * size) fun j => f (off + j)).toList hx (by rw [mk_len]) (fun j u hj => by
      have := hc.range off (m * size) hm j u hj
      unfold Addr.add
      by_cases h0 : j = 0
      · subst h0; simpa using this
      · simpa [h0] using this) (fun u hu => by
      obtain ⟨i, _, rfl⟩ := mk_mem (by simpa using hu); rfl) h63 hbytes hbase
    fun v' w' h2 h3 _ h5 => h v' w' h2 ((Below.refl base w).grown h3 hbase fun k hk => (hown.lt k hk).1) h3 h5
/-- One list more, at the end. -/
theorem snoc_flat {m : Nat} (L : List (List Int)) (f : Nat → Int) : (L.flatten.map (Value.int .i64)) ++ (mk (1 * m) fun j => f (0 + j)).toList = (L ++ [cl m f]).flatten.map (Value.int .i64) := by
  have e3 : mk (1 * m) (fun j => f (0 + j)) = mk m f := by rw [Nat.one_mul]; exact mk_congr fun j _ => by rw [Nat.zero_add]
  rw [List.flatten_append, List.map_append, e3, ← mk_cl]
  simp
/-- The same, as a walk spells it. -/
theorem snoc_walk {m : Nat} (L : List (List Int)) (f : Nat → Int) : (List.map (List.map (Value.int .i64)) L).flatten ++ (mk m f).toList = (L ++ [cl m f]).flatten.map (Value.int .i64) := by
  rw [List.flatten_append, List.map_append, ← mk_cl, List.map_flatten]
  simp
theorem OwnsL.wide {t : TypeId} {m b b' : Nat} {w : World} {v : Value} {L : List (List Int)} (h : OwnsL t m w b v L) (hb : b' ≤ b) : OwnsL t m w b' v L := ownsRow_wide h hb
theorem OwnsL.below {t : TypeId} {m b : Nat} {w w' : World} {v : Value} {L : List (List Int)} (h : OwnsL t m w b v L) (hb : Below w.heap.size w w') : OwnsL t m w' b v L := owns_below h hb
theorem OwnsL.alloc {t : TypeId} {m b : Nat} {w : World} {v : Value} {L : List (List Int)} (h : OwnsL t m w b v L) (o : Obj) : OwnsL t m (w.alloc o) b v L := World.ownsRow.alloc h o
theorem OwnsL.made {t : TypeId} {m b : Nat} (w : World) (hb : b ≤ w.heap.size) : OwnsL t m (w.alloc (.cells #[] t)) b (.slice (some ⟨w.heap.size, 0, none⟩) 0 0) [] := World.ownsRow_made (base := b) (e := t) (size := m) w #[] 0 hb (by decide) (by simp)
end Go.Proofs.Ytpiegllffkjneaa
