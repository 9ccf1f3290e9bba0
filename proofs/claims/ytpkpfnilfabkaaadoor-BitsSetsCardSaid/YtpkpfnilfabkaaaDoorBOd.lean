/- Arrays of sets: what is taken out of them. -/
import Derived.Test.YtpkpfnilfabkaaaDoorBOc
namespace Go.Proofs.YtpkpfnilfabkaaaDoor
theorem two_at0 (A B : Option Addr) (n c m d : Nat) (W : World) : (Instr.index 50 (.agg #[.slice A n c, .slice B m d]) (.int .i64 0)).run Tryd.prog W = .ok (.agg #[.slice A n c]) W := by kernel_rfl
theorem two_at1 (A B : Option Addr) (n c m d : Nat) (W : World) : (Instr.index 50 (.agg #[.slice A n c, .slice B m d]) (.int .i64 1)).run Tryd.prog W = .ok (.agg #[.slice B m d]) W := by kernel_rfl
theorem four_at0 (A B C D : Option Addr) (n c m d k f l g : Nat) (W : World) : (Instr.index 56 (.agg #[.slice A n c, .slice B m d, .slice C k f, .slice D l g]) (.int .i64 0)).run Tryd.prog W = .ok (.agg #[.slice A n c]) W := by kernel_rfl
theorem four_at1 (A B C D : Option Addr) (n c m d k f l g : Nat) (W : World) : (Instr.index 56 (.agg #[.slice A n c, .slice B m d, .slice C k f, .slice D l g]) (.int .i64 1)).run Tryd.prog W = .ok (.agg #[.slice B m d]) W := by kernel_rfl
theorem four_at2 (A B C D : Option Addr) (n c m d k f l g : Nat) (W : World) : (Instr.index 56 (.agg #[.slice A n c, .slice B m d, .slice C k f, .slice D l g]) (.int .i64 2)).run Tryd.prog W = .ok (.agg #[.slice C k f]) W := by kernel_rfl
theorem four_at3 (A B C D : Option Addr) (n c m d k f l g : Nat) (W : World) : (Instr.index 56 (.agg #[.slice A n c, .slice B m d, .slice C k f, .slice D l g]) (.int .i64 3)).run Tryd.prog W = .ok (.agg #[.slice D l g]) W := by kernel_rfl
end Go.Proofs.YtpkpfnilfabkaaaDoor
