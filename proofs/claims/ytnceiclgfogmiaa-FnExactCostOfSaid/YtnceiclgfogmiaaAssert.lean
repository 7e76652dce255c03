/- What the type switch over the program's kernels finds. No conditions. -/
import Derived.Test.YtnceiclgfogmiaaOutI
namespace Go.Proofs.Ytnceiclgfogmiaa
open Go.RowKit Go.Sort
namespace Qt
theorem as_dd (v : Value) (w : World) : (Instr.typeAssert (.iface 114 v) 67 114 true).run Try.prog w = .ok (.tuple #[v, .bool true]) w := by kernel_rfl
theorem as_cd (v : Value) (w : World) : (Instr.typeAssert (.iface 118 v) 67 114 true).run Try.prog w = .ok (.tuple #[.agg #[.int .i64 0, .int .i64 0, .int .i64 0, .int .i64 0, .slice none 0 0, .slice none 0 0], .bool false]) w := by kernel_rfl
theorem as_pd (v : Value) (w : World) : (Instr.typeAssert (.iface 121 v) 67 114 true).run Try.prog w = .ok (.tuple #[.agg #[.int .i64 0, .int .i64 0, .int .i64 0, .int .i64 0, .slice none 0 0, .slice none 0 0], .bool false]) w := by kernel_rfl
theorem as_rd (v : Value) (w : World) : (Instr.typeAssert (.iface 126 v) 67 114 true).run Try.prog w = .ok (.tuple #[.agg #[.int .i64 0, .int .i64 0, .int .i64 0, .int .i64 0, .slice none 0 0, .slice none 0 0], .bool false]) w := by kernel_rfl
theorem as_fd (v : Value) (w : World) : (Instr.typeAssert (.iface 128 v) 67 114 true).run Try.prog w = .ok (.tuple #[.agg #[.int .i64 0, .int .i64 0, .int .i64 0, .int .i64 0, .slice none 0 0, .slice none 0 0], .bool false]) w := by kernel_rfl
theorem as_cc (v : Value) (w : World) : (Instr.typeAssert (.iface 118 v) 67 118 true).run Try.prog w = .ok (.tuple #[v, .bool true]) w := by kernel_rfl
theorem as_pc (v : Value) (w : World) : (Instr.typeAssert (.iface 121 v) 67 118 true).run Try.prog w = .ok (.tuple #[.agg #[.int .i64 0, .int .i64 0, .int .i64 0, .int .i64 0, .slice none 0 0, .slice none 0 0, .int .i64 0, .int .i64 0], .bool false]) w := by kernel_rfl
theorem as_rc (v : Value) (w : World) : (Instr.typeAssert (.iface 126 v) 67 118 true).run Try.prog w = .ok (.tuple #[.agg #[.int .i64 0, .int .i64 0, .int .i64 0, .int .i64 0, .slice none 0 0, .slice none 0 0, .int .i64 0, .int .i64 0], .bool false]) w := by kernel_rfl
theorem as_fc (v : Value) (w : World) : (Instr.typeAssert (.iface 128 v) 67 118 true).run Try.prog w = .ok (.tuple #[.agg #[.int .i64 0, .int .i64 0, .int .i64 0, .int .i64 0, .slice none 0 0, .slice none 0 0, .int .i64 0, .int .i64 0], .bool false]) w := by kernel_rfl
theorem as_pp (v : Value) (w : World) : (Instr.typeAssert (.iface 121 v) 67 121 true).run Try.prog w = .ok (.tuple #[v, .bool true]) w := by kernel_rfl
theorem as_rp (v : Value) (w : World) : (Instr.typeAssert (.iface 126 v) 67 121 true).run Try.prog w = .ok (.tuple #[.agg #[.int .i64 0, .int .i64 0, .nilFunc], .bool false]) w := by kernel_rfl
theorem as_fp (v : Value) (w : World) : (Instr.typeAssert (.iface 128 v) 67 121 true).run Try.prog w = .ok (.tuple #[.agg #[.int .i64 0, .int .i64 0, .nilFunc], .bool false]) w := by kernel_rfl
end Qt
end Go.Proofs.Ytnceiclgfogmiaa
